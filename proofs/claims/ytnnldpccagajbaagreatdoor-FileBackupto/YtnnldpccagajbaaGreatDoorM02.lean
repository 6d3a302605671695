import Derived.Test.YtnnldpccagajbaaGreatDoorM01
import Derived.Lib.AppendStr
import Derived.Laws.AppendOwnNone
/-
  Lists of texts in memory; 'copied', 'texts', and the document's Find and common, walked.
-/
namespace Go.Proofs.YtnnldpccagajbaaGreatDoor
open Go.ChangeShapes Go.WideShapes Go.ChangeAt Go.RowKit
set_option linter.unusedVariables false
/-- a slice that reads as a list of texts -/
def Strs (w : World) (v : Value) (l : List (List UInt8)) : Prop :=
  ∃ (a : Option Addr) (cap : Nat), v = .slice a l.length cap ∧ ((l = [] ∧ (a = none → cap = 0)) ∨ ∃ b off, a = some ⟨b, off, none⟩ ∧ ∀ (i : Nat) (x : List UInt8), l[i]? = some x → w.cell? ⟨b, off + i, none⟩ = some (.string (str x)))
theorem Strs.kept {w w' : World} {v : Value} {l : List (List UInt8)} (h : Strs w v l) (hb : Below w.heap.size w w') : Strs w' v l := by
  obtain ⟨a, cap, hv, hl⟩ := h
  refine ⟨a, cap, hv, ?_⟩
  rcases hl with hl | ⟨b, off, ha, hc⟩
  · exact Or.inl hl
  · refine Or.inr ⟨b, off, ha, fun i x hx => ?_⟩
    rw [hb.cell (p := ⟨b, off + i, none⟩) (World.block_lt_of_cell? w ⟨b, off + i, none⟩ (hc i x hx))]; exact hc i x hx
theorem Strs.drewN {w : World} {v : Value} {l : List (List UInt8)} (h : Strs w v l) (n : Nat) : Strs (w.drewN n) v l := h.kept (below_drewN (Below.refl _ _) n)
theorem two_draws (w : World) (n m : Nat) : ∃ k, (w.drewN n).drewN m = w.drewN k := ⟨n + m, by simp⟩
theorem get_at {l : List (List UInt8)} {k : Nat} (h : k < l.length) : l[k]? = some l[k] := List.getElem?_eq_getElem h
theorem take_next (l : List (List UInt8)) (k : Nat) (h : k < l.length) : l.take (k + 1) = l.take k ++ [l[k]] := List.take_succ_eq_append_getElem h
set_option maxRecDepth 100000 in
set_option maxHeartbeats 1000000 in
theorem texts_any (va vb : Value) (la lb : List (List UInt8)) (w : World) (ha : Strs w va la) (hb : Strs w vb lb) (hl : la.length ≤ 140737488355328) (hl2 : lb.length ≤ 140737488355328) :
    Calls Tryz.prog 46 #[va, vb] w fun e w' => e = .returned (.bool (la == lb)) ∧ ∃ n, w' = w.drewN n := by
  obtain ⟨a, cap, rfl, ha⟩ := ha
  obtain ⟨b, cap2, rfl, hb⟩ := hb
  by_cases hlen : la.length = lb.length
  · rcases ha with ha | ⟨ba, oa, rfl, ha⟩
    · obtain ⟨ha, _⟩ := ha
      subst ha
      have hb0 : lb = [] := List.eq_nil_of_length_eq_zero (by simpa using hlen.symm)
      subst hb0
      go_enter Tryz.func46, Tryz.ntmps46
      go_wp2
      refine wp_loop_rounds 1 ?_
      rw [rounds_succ]
      go_wp2
      go_ret
      exact ⟨rfl, 0, rfl⟩
    · rcases hb with hb | ⟨bb, ob, rfl, hb⟩
      · obtain ⟨hb, _⟩ := hb
        subst hb
        have ha0 : la = [] := List.eq_nil_of_length_eq_zero (by simpa using hlen)
        subst ha0
        go_enter Tryz.func46, Tryz.ntmps46
        go_wp2
        refine wp_loop_rounds 1 ?_
        rw [rounds_succ]
        go_wp2
        go_ret
        exact ⟨rfl, 0, rfl⟩
      · rw [← hlen]
        have HL : Hid (la.length = lb.length) := hlen
        have HA : Hid (∀ (i : Nat) (x : List UInt8), la[i]? = some x → w.cell? ⟨ba, oa + i, none⟩ = some (.string (str x))) := ha
        have HB : Hid (∀ (i : Nat) (x : List UInt8), lb[i]? = some x → w.cell? ⟨bb, ob + i, none⟩ = some (.string (str x))) := hb
        clear ha hb hlen hl2
        go_enter Tryz.func46, Tryz.ntmps46
        go_wp2
        go_loopw [5] (fun i wr => ∃ k n : Nat, k ≤ la.length ∧ i = .int .i64 k ∧ wr = w.drewN n ∧ Hid (la.take k = lb.take k)) (fun i _ => la.length - (intOf i).toNat)
        case atStart => exact ⟨0, 0, by omega, rfl, rfl, rfl⟩
        case round =>
          obtain ⟨k, n, hk, rfl, rfl, HT⟩ := hrel
          by_cases hlt : k < la.length
          · have hlt2 : k < lb.length := by have := HL.out; omega
            have c1 := HA.out k la[k] (get_at hlt)
            have c2 := HB.out k lb[k] (get_at hlt2)
            by_cases he : la[k] = lb[k]
            · have hs : ((str la[k]).toList == (str lb[k]).toList) = true := by rw [he]; simp
              have HE : Hid (la.take (k + 1) = lb.take (k + 1)) := by show _ = _; rw [take_next la k hlt, take_next lb k hlt2, HT.out, he]
              generalize str la[k] = sa at *
              generalize str lb[k] = sb at *
              clear he
              go_wp2
              go_quiet (fail)
              go_wp2
              go_roundw
              case rel => exact ⟨k + 1, _, by omega, by go_num, rfl, HE⟩
              case measure => simp [intOf]; omega
            · have hs : ((str la[k]).toList == (str lb[k]).toList) = false := by rw [toList_str, toList_str]; simp [he]
              have HE : Hid ((la == lb) = false) := by
                show _ = _
                rw [beq_eq_false_iff_ne]
                intro h; subst h; exact he rfl
              generalize str la[k] = sa at *
              generalize str lb[k] = sb at *
              clear he
              go_wp2
              go_quiet (fail)
              go_wp2
              go_ret
              refine ⟨ret_bool HE.out.symm, ?_⟩
              first | exact ⟨_, rfl⟩ | exact two_draws _ _ _
          · have HE : Hid ((la == lb) = true) := by
              show _ = _
              rw [beq_iff_eq]
              have := HT.out
              rw [List.take_of_length_le (by omega), List.take_of_length_le (by have := HL.out; omega)] at this
              exact this
            go_wp2
            go_ret
            refine ⟨ret_bool HE.out.symm, ?_⟩
            first | exact ⟨_, rfl⟩ | exact two_draws _ _ _
  · have hne : ((la.length : Int) != (lb.length : Int)) = true := by simp; omega
    have HE : Hid ((la == lb) = false) := by
      show _ = _
      rw [beq_eq_false_iff_ne]
      intro h; subst h; exact hlen rfl
    clear ha hb hlen
    go_enter Tryz.func46, Tryz.ntmps46
    go_wp2
    go_ret
    exact ⟨ret_bool HE.out.symm, 0, rfl⟩
theorem info9 : (Tryz.prog.info? 9).map (fun i => (i.zero, i.size, i.bytes)) = some (some (.string { data := #[] }), 1, 16) := by kernel_rfl
/-- texts as cells -/
def ts (l : List (List UInt8)) : List Value := l.map fun x => Value.string (str x)
theorem ts_length (l : List (List UInt8)) : (ts l).length = l.length := by simp [ts]
theorem ts_snoc (l : List (List UInt8)) (x : List UInt8) : ts l ++ [Value.string (str x)] = ts (l ++ [x]) := by simp [ts]
theorem ts_at {l : List (List UInt8)} {i : Nat} {x : List UInt8} (h : l[i]? = some x) : (ts l)[i]? = some (.string (str x)) := by simp [ts, h]
/-- a row of one's own reads as its texts -/
theorem own_strs {w : World} {base : Nat} {v : Value} {l : List (List UInt8)} {n : Nat} (h : w.ownsRow base 9 1 v n (ts l)) : Strs w v l := by
  have h1 := h.1
  rw [ts_length, Nat.mul_one] at h1
  subst h1
  rcases h.2 with ⟨rfl, h0⟩ | ⟨g, cap, cur, rfl, hb, hg, hn, hc, hs, ht⟩
  · exact ⟨none, 0, by rw [h0], Or.inl ⟨List.eq_nil_of_length_eq_zero h0, fun _ => rfl⟩⟩
  · refine ⟨some ⟨g, 0, none⟩, cap, rfl, Or.inr ⟨g, 0, rfl, fun i x hx => ?_⟩⟩
    have := h.cells (g := g) rfl i _ (ts_at hx)
    rw [show (⟨g, 0, none⟩ : Addr).add i = ⟨g, i, none⟩ from by unfold Addr.add; split <;> simp_all] at this
    rw [Nat.zero_add]; exact this
set_option maxRecDepth 100000 in
set_option maxHeartbeats 1000000 in
theorem copied_any (v : Value) (l : List (List UInt8)) (w : World) (h : Strs w v l) (hl : l.length * 16 ≤ 140737488355328) :
    Calls Tryz.prog 57 #[v] w fun e w' => (∃ v', e = .returned v' ∧ w'.ownsRow w.heap.size 9 1 v' l.length (ts l)) ∧ Below w.heap.size w w' := by
  obtain ⟨i0, hi, hz0, hz1, hz2⟩ := info_parts info9
  obtain ⟨a, cap, rfl, h⟩ := h
  have hown : w.ownsRow w.heap.size 9 1 (.slice none 0 0) 0 [] := World.ownsRow_nil _ _ _ _
  have go : ∀ ad : Addr, (∀ (j : Nat) (u : Value), (ts l)[j]? = some u → w.cell? (ad.add j) = some u) →
      Calls Tryz.prog 57 #[.slice (some ad) l.length cap] w fun e w' => (∃ v', e = .returned v' ∧ w'.ownsRow w.heap.size 9 1 v' l.length (ts l)) ∧ Below w.heap.size w w' := by
    intro ad had
    have HAD : Hid (∀ (j : Nat) (u : Value), (ts l)[j]? = some u → w.cell? (ad.add j) = some u) := had
    clear had h
    go_enter Tryz.func57, Tryz.ntmps57
    go_wp2_with (at_builtin; refine wpList_append_own _ rfl _ _ 45 rfl w.heap.size 9 i0 (.string { data := #[] }) 1 16 Tryz.underlying45 hi hz0 hz1 hz2 rfl (by decide) _ _ _ rfl hown ad l.length cap (ts l) rfl ?c0 ?c1 ?c2 ?c3 ?c4 ?c5 ?_)
    case c0 => rw [ts_length, Nat.mul_one]
    case c1 => exact HAD.out
    case c2 =>
      intro u hu
      obtain ⟨x, _, rfl⟩ := List.mem_map.1 hu
      rfl
    case c3 => unfold maxLen; omega
    case c4 => omega
    case c5 => exact Nat.le_refl _
    intro v' w1 hown' hg _
    have HO : Hid (w1.ownsRow w.heap.size 9 1 v' l.length (ts l)) := hown'
    have HB : Hid (Below w.heap.size w w1) := (Below.refl _ _).grown hg (Nat.le_refl _) (fun k hk => by cases hk)
    clear hown' hg
    go_wp2
    go_ret
    exact ⟨⟨_, rfl, HO.out⟩, HB.out⟩
  rcases h with ⟨rfl, hn⟩ | ⟨b, off, rfl, hc⟩
  · cases a with
    | none =>
      obtain rfl := hn rfl
      clear go
      go_enter Tryz.func57, Tryz.ntmps57
      go_wp2_with (at_builtin; refine wpList_append_own_none rfl _ _ 45 rfl w.heap.size 9 i0 1 Tryz.underlying45 hi _ _ _ rfl hown rfl ?_)
      go_wp2
      go_ret
      exact ⟨⟨_, rfl, hown⟩, Below.refl _ _⟩
    | some ad => exact go ad (fun j u hu => by simp [ts] at hu)
  · refine go ⟨b, off, none⟩ (fun j u hu => ?_)
    have hj : j < l.length := by
      rcases Nat.lt_or_ge j l.length with h | h
      · exact h
      · rw [List.getElem?_eq_none (by rw [ts_length]; exact h)] at hu; cases hu
    rw [ts_at (get_at hj)] at hu
    cases hu
    rw [show (⟨b, off, none⟩ : Addr).add j = ⟨b, off + j, none⟩ from by unfold Addr.add; split <;> simp_all]
    exact hc j _ (get_at hj)
theorem find_at (l : List (List UInt8)) (s : List UInt8) (k : Nat) (h : ∀ i, i < k → l[i]? ≠ some s) (hk : l[k]? = some s) : find l s = k := by
  have hkl : k < l.length := by
    rcases Nat.lt_or_ge k l.length with h | h
    · exact h
    · rw [List.getElem?_eq_none h] at hk; cases hk
  have e : l.findIdx? (· == s) = some k := by
    rw [List.findIdx?_eq_some_iff_getElem]
    refine ⟨hkl, ?_, fun j hj => ?_⟩
    · rw [get_at hkl] at hk; simpa using hk
    · have := h j hj
      rw [get_at (by omega)] at this
      simpa using this
  unfold find; rw [e]
theorem find_no (l : List (List UInt8)) (s : List UInt8) (h : ∀ i, i < l.length → l[i]? ≠ some s) : find l s = -1 := by
  have e : l.findIdx? (· == s) = none := by
    rw [List.findIdx?_eq_none_iff]
    intro x hx
    obtain ⟨i, hi, rfl⟩ := List.getElem_of_mem hx
    have := h i hi
    rw [get_at hi] at this
    simpa using this
  unfold find; rw [e]
set_option maxRecDepth 100000 in
set_option maxHeartbeats 1000000 in
theorem rfind_any (v : Value) (l : List (List UInt8)) (s : ByteArray) (w : World) (h : Strs w v l) (hl : l.length ≤ 140737488355328) :
    Calls Tryz.prog 59 #[v, .string s] w fun e w' => e = .returned (.int .i64 (find l s.data.toList)) ∧ w' = w := by
  obtain ⟨a, cap, rfl, h⟩ := h
  rcases h with ⟨rfl, _⟩ | ⟨b, off, rfl, hc⟩
  · go_enter Tryz.func59, Tryz.ntmps59
    go_wp2
    refine wp_loop_rounds 1 ?_
    rw [rounds_succ]
    go_wp2
    go_ret
    exact ⟨rfl, rfl⟩
  · have HC : Hid (∀ (i : Nat) (x : List UInt8), l[i]? = some x → w.cell? ⟨b, off + i, none⟩ = some (.string (str x))) := hc
    clear hc
    go_enter Tryz.func59, Tryz.ntmps59
    go_wp2
    go_loop [5] (fun i => ∃ k : Nat, k ≤ l.length ∧ i = .int .i64 k ∧ Hid (∀ i, i < k → l[i]? ≠ some s.data.toList)) (fun i => l.length - (intOf i).toNat)
    case atStart => exact ⟨0, by omega, rfl, fun i hi => absurd hi (by omega)⟩
    case round =>
      obtain ⟨k, hk, rfl, HN⟩ := hrel
      by_cases hlt : k < l.length
      · have c1 := HC.out k l[k] (get_at hlt)
        by_cases he : l[k] = s.data.toList
        · have hs : ((str l[k]).toList == s.toList) = true := by rw [toList_str, he, toList_of]; simp
          have HF : Hid (find l s.data.toList = k) := find_at l _ k HN.out (by rw [get_at hlt, he])
          generalize str l[k] = sa at *
          clear he
          go_wp2
          go_ret
          exact ⟨ret_int HF.out.symm, rfl⟩
        · have hs : ((str l[k]).toList == s.toList) = false := by rw [toList_str, toList_of]; simp [he]
          have HF : Hid (∀ i, i < k + 1 → l[i]? ≠ some s.data.toList) := by
            intro i hi
            rcases Nat.lt_or_ge i k with h | h
            · exact HN.out i h
            · obtain rfl : i = k := by omega
              rw [get_at hlt]; simpa using he
          generalize str l[k] = sa at *
          clear he
          go_wp2
          go_round
          case rel => exact ⟨k + 1, by omega, by go_num, HF⟩
          case measure => simp [intOf]; omega
      · have HF : Hid (find l s.data.toList = -1) := find_no l _ (fun i hi => HN.out i (by omega))
        go_wp2
        go_ret
        exact ⟨ret_int HF.out.symm, rfl⟩
theorem common_stop (a b : List UInt8) (k : Nat) (h : a.take k = b.take k) (ha : k ≤ a.length) (hb : k ≤ b.length) (hs : a.length = k ∨ b.length = k ∨ a[k]? ≠ b[k]?) : common a b = k := by
  induction k generalizing a b with
  | zero =>
    cases a with
    | nil => simp [common]
    | cons x a =>
      cases b with
      | nil => simp [common]
      | cons y b => simp at hs; simp [common, hs]
  | succ k ih =>
    cases a with
    | nil => simp at ha
    | cons x a =>
      cases b with
      | nil => simp at hb
      | cons y b =>
        simp only [List.take_succ_cons, List.cons.injEq] at h
        obtain ⟨rfl, h⟩ := h
        rw [common, if_pos rfl, ih a b h (by simpa using ha) (by simpa using hb) (by simpa using hs)]
theorem take_byte (s : ByteArray) (k : Nat) (h : k < s.size) : s.data.toList.take (k + 1) = s.data.toList.take k ++ [s[k]] := by
  rw [List.take_succ_eq_append_getElem (by simpa using h)]; rfl
theorem byte_get (s : ByteArray) (k : Nat) (h : k < s.size) : s.data.toList[k]? = some s[k] := by
  rw [List.getElem?_eq_getElem (by simpa using h)]; rfl
set_option maxRecDepth 100000 in
set_option maxHeartbeats 1000000 in
theorem rcommon_any (s t : ByteArray) (w : World) (hs : s.size ≤ 140737488355328) (ht : t.size ≤ 140737488355328) :
    Calls Tryz.prog 58 #[.string s, .string t] w fun e w' => e = .returned (.int .i64 (common s.data.toList t.data.toList)) ∧ ∃ n, w' = w.drewN n := by
  go_enter Tryz.func58, Tryz.ntmps58
  go_wp2
  go_loopw [5] (fun i wr => ∃ k n : Nat, k ≤ s.size ∧ k ≤ t.size ∧ i = .int .i64 k ∧ wr = w.drewN n ∧ Hid (s.data.toList.take k = t.data.toList.take k)) (fun i _ => s.size - (intOf i).toNat)
  case atStart => exact ⟨0, 0, by omega, by omega, rfl, rfl, by simp [Hid]⟩
  case round =>
    obtain ⟨k, n, hk1, hk2, rfl, rfl, HT⟩ := hrel
    have fin : ∀ (hs : s.size = k ∨ t.size = k ∨ s.data.toList[k]? ≠ t.data.toList[k]?), common s.data.toList t.data.toList = k := fun h => common_stop _ _ k HT.out (by simpa using hk1) (by simpa using hk2) (by simpa using h)
    have FIN : Hid (∀ (hs : s.size = k ∨ t.size = k ∨ s.data.toList[k]? ≠ t.data.toList[k]?), common s.data.toList t.data.toList = k) := fin
    clear fin
    by_cases hlt : k < s.size
    · by_cases hlt2 : k < t.size
      · have hc1 := byte_le s[k]
        have hc2 := byte_le t[k]
        by_cases he : s[k] = t[k]
        · have hb : ((s[k].toNat : Int) == (t[k].toNat : Int)) = true := by rw [he]; simp
          have HE : Hid (s.data.toList.take (k + 1) = t.data.toList.take (k + 1)) := by show _ = _; rw [take_byte s k hlt, take_byte t k hlt2, HT.out, he]
          clear he
          go_wp2
          go_quiet (fail)
          go_wp2
          go_roundw
          case rel => exact ⟨k + 1, _, by omega, by omega, by go_num, rfl, HE⟩
          case measure => simp [intOf]; omega
        · have hb : ((s[k].toNat : Int) == (t[k].toNat : Int)) = false := by
            rw [beq_eq_false_iff_ne]
            intro h
            exact he (UInt8.toNat_inj.1 (by omega))
          have HE : Hid (common s.data.toList t.data.toList = k) := FIN.out (Or.inr (Or.inr (by rw [byte_get s k hlt, byte_get t k hlt2]; simpa using he)))
          clear he
          go_wp2
          go_quiet (fail)
          go_wp2
          go_ret
          refine ⟨ret_int (by rw [HE.out]), ?_⟩
          first | exact ⟨_, rfl⟩ | exact two_draws _ _ _
      · have hd : decide ((k : Int) < (t.size : Int)) = false := by simp; omega
        have HE : Hid (common s.data.toList t.data.toList = k) := FIN.out (Or.inr (Or.inl (by omega)))
        go_wp2
        go_quiet (fail)
        go_wp2
        go_ret
        refine ⟨ret_int (by rw [HE.out]), ?_⟩
        first | exact ⟨_, rfl⟩ | exact two_draws _ _ _
    · have hd : decide ((k : Int) < (s.size : Int)) = false := by simp; omega
      have HE : Hid (common s.data.toList t.data.toList = k) := FIN.out (Or.inl (by omega))
      go_wp2
      go_quiet (fail)
      go_wp2
      go_ret
      refine ⟨ret_int (by rw [HE.out]), ?_⟩
      first | exact ⟨_, rfl⟩ | exact two_draws _ _ _
end Go.Proofs.YtnnldpccagajbaaGreatDoor
