import Derived.Test.YtnnldpccagajbaaGreatDoorM08
import Derived.Maps.AppendAt
import Derived.Test.YtnnldpccagajbaaGreatDoorM01
/-
  The document's put, walked.
-/
namespace Go.Proofs.YtnnldpccagajbaaGreatDoor
open Go.ChangeShapes Go.WideShapes Go.ChangeAt Go.RowKit
set_option linter.unusedVariables false
theorem own_set {w : World} {base : Nat} {e : TypeId} {g n cap : Nat} {xs : List Value} (h : w.ownsRow base e 1 (.slice (some ⟨g, 0, none⟩) n cap) n xs) (j : Nat) (u : Value) :
    (w.setCell ⟨g, j, none⟩ u).ownsRow base e 1 (.slice (some ⟨g, 0, none⟩) n cap) n (xs.set j u) := by
  refine ⟨by rw [List.length_set]; exact h.1, ?_⟩
  rcases h.2 with ⟨hv, _⟩ | ⟨g', cap', cur, hv, hb, hg, hn, hc, hs, ht⟩
  · cases hv
  · cases hv
    refine Or.inr ⟨g, cap, cur.setIfInBounds j u, rfl, hb, ?_, hn, hc, by simpa using hs, ?_⟩
    · simp only [World.setCell, Array.getElem?_modify, ↓reduceIte, hg, Option.map_some]; rfl
    · rw [Array.toList_setIfInBounds, List.take_set, ht]
theorem own_thaw {w : World} {base : Nat} {e : TypeId} {g n cap : Nat} {xs : List Value} (h : w.ownsRow base e 1 (.slice (some ⟨g, 0, none⟩) n cap) n xs) (j : Nat) : w.frozen? ⟨g, j, none⟩ = false := by
  rcases h.2 with ⟨hv, _⟩ | ⟨g', cap', cur, hv, hb, hg, hn, hc, hs, ht⟩
  · cases hv
  · cases hv
    unfold World.frozen?
    simp only [hg]
    simp
theorem own_vals {w : World} {base : Nat} {e : TypeId} {v : Value} {vs : List Value} {n : Nat} (h : w.ownsRow base e 1 v n vs) : Vals w v vs := by
  have h1 := h.1
  rw [Nat.mul_one] at h1
  subst h1
  rcases h.2 with ⟨rfl, h0⟩ | ⟨g, cap, cur, rfl, hb, hg, hn, hc, hs, ht⟩
  · exact ⟨none, 0, by rw [h0], Or.inl ⟨List.eq_nil_of_length_eq_zero h0, fun _ => rfl⟩⟩
  · refine ⟨some ⟨g, 0, none⟩, cap, rfl, Or.inr ⟨g, 0, rfl, fun i x hx => ?_⟩⟩
    have := h.cells (g := g) rfl i _ hx
    rw [show (⟨g, 0, none⟩ : Addr).add i = ⟨g, i, none⟩ from by unfold Addr.add; split <;> simp_all] at this
    rw [Nat.zero_add]; exact this
theorem infoRow : (Tryz.prog.info? 45).map (fun i => (i.zero, i.size, i.bytes)) = some (some (.slice none 0 0), 1, 24) := by kernel_rfl
theorem own_kept2 {w : World} {base : Nat} {e : TypeId} {size : Nat} {v : Value} {n : Nat} {xs : List Value} (h : w.ownsRow base e size v n xs) (m : Nat) : (w.drewN m).ownsRow base e size v n xs := by
  refine h.kept (row := none) ⟨rfl, rfl, rfl, Nat.le_refl _, fun _ _ _ => rfl⟩ ?_
  cases v.ownBlock with
  | none => exact Or.inl rfl
  | some g => exact Or.inr (by simp)
/-- one block alone may have been written, and blocks may be new -/
theorem grown_draws {w : World} {row : Option Nat} (n : Nat) : w.grownBy (w.drewN n) row := ⟨rfl, rfl, rfl, Nat.le_refl _, fun _ _ _ => rfl⟩
theorem grown_trans {a b c : World} {r s : Option Nat} (h : a.grownBy b r) (k : b.grownBy c s) (hs : ∀ g, s = some g → s = r ∨ a.heap.size ≤ g) : a.grownBy c r :=
  ⟨k.os.trans h.os, k.tape.trans h.tape, k.output.trans h.output, Nat.le_trans h.size k.size, fun i hi hne => by
    rw [k.block i (Nat.lt_of_lt_of_le hi h.size) (fun e => by
      rcases hs i e.symm with e2 | e2
      · exact hne (by rw [e, e2])
      · omega)]
    exact h.block i hi hne⟩
theorem grown_alloc {w : World} (o : Obj) (r : Option Nat) : w.grownBy (w.alloc o) r := ⟨rfl, rfl, rfl, by simp, fun k hk _ => Below.heap_alloc _ _ _ hk⟩
theorem grown_set {w : World} {g j : Nat} (u : Value) : w.grownBy (w.setCell ⟨g, j, none⟩ u) (some g) := ⟨rfl, rfl, rfl, by simp [World.setCell], fun k hk hne => Below.heap_setCell _ _ _ _ (fun e => hne (by rw [e]))⟩
theorem strs_grown {w w' : World} {v : Value} {l : List (List UInt8)} {row : Option Nat} (h : Strs w v l) (hg : w.grownBy w' row) (hne : ∀ b off cap n, v = .slice (some ⟨b, off, none⟩) n cap → some b ≠ row) : Strs w' v l := by
  obtain ⟨a, cap, rfl, hl⟩ := h
  refine ⟨a, cap, rfl, ?_⟩
  rcases hl with hl | ⟨b, off, rfl, hc⟩
  · exact Or.inl hl
  · exact Or.inr ⟨b, off, rfl, fun i x hx => hg.cell (hc i x hx) (hne b off cap _ rfl)⟩
theorem step_list (vs : List Value) (j : Nat) (c : Value) (hj : j < vs.length) : (vs.take (j + 1) ++ c :: vs.drop (j + 1)).set (j + 1) vs[j] = vs.take j ++ vs[j] :: vs.drop j := by
  have h1 : (vs.take (j + 1)).length = j + 1 := by simp; omega
  have h2 : vs.take (j + 1) = vs.take j ++ [vs[j]] := List.take_succ_eq_append_getElem hj
  have h3 : vs.drop j = vs[j] :: vs.drop (j + 1) := List.drop_eq_getElem_cons hj
  rw [List.set_append_right _ _ (by omega), h1, Nat.sub_self, List.set_cons_zero, h2, List.append_assoc]
  congr 1
  show vs[j] :: (vs[j] :: vs.drop (j + 1)) = vs[j] :: vs.drop j
  rw [← h3]
theorem at_gap (vs : List Value) (k : Nat) (c : Value) (hl : k ≤ vs.length) : (vs.take k ++ c :: vs.drop k)[k]? = some c := by
  have h1 : (vs.take k).length = k := by simp; omega
  rw [List.getElem?_append_right (by omega), h1, Nat.sub_self]; rfl
theorem below_gap (vs : List Value) (k j : Nat) (c : Value) (hj : j < k) (hl : k ≤ vs.length) : (vs.take k ++ c :: vs.drop k)[j]? = some (vs[j]'(by omega)) := by
  rw [List.getElem?_append_left (by simp; omega), List.getElem?_take_of_lt hj, List.getElem?_eq_getElem]
/-- a value put where its row belongs -/
def insV (vs : List Value) (L : List (List (List UInt8))) (r : List (List UInt8)) (x : Value) : List Value := if r ∈ L then vs else vs.take (ahead L r) ++ x :: vs.drop (ahead L r)
theorem ahead_le (L : List (List (List UInt8))) (r : List (List UInt8)) : ahead L r ≤ L.length := by
  unfold ahead; exact (List.takeWhile_sublist _).length_le
set_option maxRecDepth 100000 in
set_option maxHeartbeats 2000000 in
theorem put_grown (base : Nat) (v vr : Value) (vs : List Value) (L : List (List (List UInt8))) (r : List (List UInt8)) (m : Nat) (w : World) (hown : w.ownsRow base 45 1 v vs.length vs) (hbase : base ≤ w.heap.size)
    (hin : vs.length = L.length ∧ ∀ (i : Nat) (x : Value) (r : List (List UInt8)), vs[i]? = some x → L[i]? = some r → Strs w x r) (hr : Strs w vr r) (hL : Rises m L) (hm : r.length = m) (hl : L.length ≤ 1073741824) (hml : m ≤ 140737488355328) :
    Calls Tryz.prog 34 #[v, vr] w fun e w' => ∃ v', e = .returned v' ∧ w'.ownsRow base 45 1 v' (insV vs L r vr).length (insV vs L r vr) ∧ w.grownBy w' v.ownBlock := by
  obtain ⟨i0, hi, hz0, hz1, hz2⟩ := info_parts infoRow
  have HO : Hid (w.ownsRow base 45 1 v vs.length vs) := hown
  have HR2 : Hid (Rows2 w v vs L) := ⟨own_vals hown, hin.1, hin.2⟩
  have HR : Hid (Strs w vr r) := hr
  have HRI : Hid (Rises m L) := hL
  have hvl : vs.length ≤ 1073741824 := by rw [hin.1]; exact hl
  have hal : ahead L r ≤ vs.length := by rw [hin.1]; exact ahead_le L r
  have HM : Hid (r.length = m) := hm
  clear hown hin hr hL hm
  by_cases hmem : r ∈ L
  · have HV : Hid (insV vs L r vr = vs) := by show _ = _; rw [insV, if_pos hmem]
    have HD : Hid (decide (r ∈ L) = true) := by show _ = _; simp [hmem]
    clear hmem
    go_enter Tryz.func34, Tryz.ntmps34
    go_wp2_with fail
    refine (place_any v vr vs L r m _ HR2.out HR.out HRI.out HM.out (by omega) hml).mono ?_
    rintro e w1 ⟨rfl, hd1⟩
    obtain ⟨n1, rfl⟩ := hd1
    rw [HD.out]
    go_wp2
    go_ret
    exact ⟨_, rfl, by rw [HV.out]; exact own_kept2 HO.out n1, grown_draws n1⟩
  · have HV : Hid (insV vs L r vr = vs.take (ahead L r) ++ vr :: vs.drop (ahead L r)) := by show _ = _; rw [insV, if_neg hmem]
    have HD : Hid (decide (r ∈ L) = false) := by show _ = _; simp [hmem]
    clear hmem
    obtain ⟨k, HK⟩ : ∃ k, Hid (k = ahead L r) := ⟨ahead L r, rfl⟩
    rw [← HK.out] at hal HV
    have HRS : Hid (Strs w vr r) := HR.out
    obtain ⟨ar, capr, hvr, _⟩ := HR.out
    subst hvr
    go_enter Tryz.func34, Tryz.ntmps34
    go_wp2_with fail
    refine (place_any v _ vs L r m _ HR2.out HRS.out HRI.out HM.out (by omega) hml).mono ?_
    rintro e w1 ⟨rfl, hd1⟩
    obtain ⟨n1, rfl⟩ := hd1
    rw [HD.out, ← HK.out]
    have hown1 := own_kept2 HO.out n1
    go_wp2_with (at_builtin; refine wpList_append_own_at _ rfl _ _ 22 rfl base 45 i0 (.slice none 0 0) 1 24 Tryz.underlying22 hi hz0 hz1 hz2 rfl (by decide) _ _ _ rfl (hown1.alloc _) ⟨w.heap.size, 0, none⟩ 1 1 [.slice ar r.length capr] rfl rfl ?c1 ?c2 ?c3 ?c4 ?c5 ?_)
    case c1 =>
      intro j' u hj'
      match j', hj' with
      | 0, hj' => simp at hj'; subst hj'; exact World.cell?_alloc_at _ _ _ _ rfl
    case c2 => intro u hu; simp at hu; subst hu; rfl
    case c3 => unfold maxLen; omega
    case c4 => omega
    case c5 => simp; omega
    intro v2 w2 hown2 hg2 _ hat
    have HBW : Hid (w.grownBy w2 v.ownBlock) := ((grown_draws n1).trans (grown_alloc _ _)).trans hg2
    clear hg2 hown1
    rcases hown2.2 with ⟨_, h0⟩ | ⟨g, cap2, cur, hv2, hbg, _, _, _, _, _⟩
    · omega
    · subst hv2
      have HGG : Hid (∀ q, some g = some q → some g = v.ownBlock ∨ w.heap.size ≤ q) := by
        intro q hq
        cases hq
        rcases hat with e | e
        · exact Or.inl e
        · right
          have e2 : g = _ := Option.some.inj e
          first | omega | (simp at e2; omega)
      clear hat
      obtain ⟨x0, HX0⟩ : ∃ x0, Hid (x0 = Value.slice ar r.length capr) := ⟨_, rfl⟩
      have HO2 : Hid (w2.ownsRow base 45 1 (.slice (some ⟨g, 0, none⟩) (vs.length + 1) cap2) (vs.length + 1) (vs.take vs.length ++ Value.slice ar r.length capr :: vs.drop vs.length)) := by
        show _
        rw [List.take_length, List.drop_length]; exact hown2
      clear hown2
      go_wp2
      go_loopw [7] (fun kv wr => ∃ (j : Nat) (c : Value), k ≤ j ∧ j ≤ vs.length ∧ kv = .int .i64 j ∧ Hid (wr.ownsRow base 45 1 (.slice (some ⟨g, 0, none⟩) (vs.length + 1) cap2) (vs.length + 1) (vs.take j ++ c :: vs.drop j)) ∧ Hid (w.grownBy wr v.ownBlock)) (fun kv _ => (intOf kv).toNat)
      case atStart => exact ⟨vs.length, .slice ar r.length capr, hal, Nat.le_refl _, by go_num, HO2, HBW⟩
      case round =>
        obtain ⟨j, c, hj1, hj2, rfl, HOJ, HBJ⟩ := hrel
        have cj : wr.cell? ⟨g, j, none⟩ = some c := by
          have := HOJ.out.cells (g := g) rfl j _ (at_gap vs j c hj2)
          rw [show (⟨g, 0, none⟩ : Addr).add j = ⟨g, j, none⟩ from by unfold Addr.add; split <;> simp_all] at this
          exact this
        have fj := own_thaw HOJ.out j
        by_cases hlt : k < j
        · obtain ⟨i, rfl⟩ : ∃ i, j = i + 1 := ⟨j - 1, by omega⟩
          have hiv : i < vs.length := by omega
          have ci : wr.cell? ⟨g, i, none⟩ = some vs[i] := by
            have := HOJ.out.cells (g := g) rfl i _ (below_gap vs (i + 1) i c (by omega) hj2)
            rw [show (⟨g, 0, none⟩ : Addr).add i = ⟨g, i, none⟩ from by unfold Addr.add; split <;> simp_all] at this
            exact this
          have hil : i < L.length := by have := HR2.out.2.1; omega
          obtain ⟨ai, capi, hvi, _⟩ := HR2.out.2.2 i _ _ (val_at hiv) (row_at hil)
          have HO3 := own_set HOJ.out (i + 1) vs[i]
          rw [step_list vs i c hiv, hvi] at HO3
          have HO3H : Hid ((wr.setCell ⟨g, i + 1, none⟩ (.slice ai L[i].length capi)).ownsRow base 45 1 (.slice (some ⟨g, 0, none⟩) (vs.length + 1) cap2) (vs.length + 1) (vs.take i ++ (.slice ai L[i].length capi) :: vs.drop i)) := HO3
          rw [hvi] at ci
          clear HO3 hvi
          go_wp2
          go_roundw
          case rel => exact ⟨i, _, by omega, by omega, by go_num, HO3H, grown_trans HBJ.out (grown_set _) HGG.out⟩
          case measure => simp [intOf]
        · obtain rfl : j = k := by omega
          have HO3 := own_set HOJ.out j (.slice ar r.length capr)
          have hset : (vs.take j ++ c :: vs.drop j).set j (Value.slice ar r.length capr) = vs.take j ++ Value.slice ar r.length capr :: vs.drop j := by
            have h1 : (vs.take j).length = j := by simp; omega
            rw [List.set_append_right _ _ (by omega), h1, Nat.sub_self, List.set_cons_zero]
          rw [hset] at HO3
          have HO3H : Hid ((wr.setCell ⟨g, j, none⟩ (.slice ar r.length capr)).ownsRow base 45 1 (.slice (some ⟨g, 0, none⟩) (vs.length + 1) cap2) (vs.length + 1) (vs.take j ++ (.slice ar r.length capr) :: vs.drop j)) := HO3
          clear HO3 hset
          have HLN : Hid ((vs.take j ++ Value.slice ar r.length capr :: vs.drop j).length = vs.length + 1) := by show _ = _; simp; omega
          go_wp2
          go_ret
          exact ⟨_, rfl, by rw [HV.out, HLN.out]; exact HO3H.out, grown_trans HBJ.out (grown_set _) HGG.out⟩
theorem put_any (base : Nat) (v vr : Value) (vs : List Value) (L : List (List (List UInt8))) (r : List (List UInt8)) (m : Nat) (w : World) (hown : w.ownsRow base 45 1 v vs.length vs) (hbase : base ≤ w.heap.size)
    (hin : vs.length = L.length ∧ ∀ (i : Nat) (x : Value) (r : List (List UInt8)), vs[i]? = some x → L[i]? = some r → Strs w x r) (hr : Strs w vr r) (hL : Rises m L) (hm : r.length = m) (hl : L.length ≤ 1073741824) (hml : m ≤ 140737488355328) :
    Calls Tryz.prog 34 #[v, vr] w fun e w' => ∃ v', e = .returned v' ∧ w'.ownsRow base 45 1 v' (insV vs L r vr).length (insV vs L r vr) ∧ Below base w w' :=
  (put_grown base v vr vs L r m w hown hbase hin hr hL hm hl hml).mono fun e w' ⟨v', he, ho, hg⟩ => ⟨v', he, ho, (Below.refl base w).grown hg hbase (fun k hk => (hown.lt k hk).1)⟩
end Go.Proofs.YtnnldpccagajbaaGreatDoor

/-
  Which texts are names: in plain lists, and the document's IsName, walked.
-/
namespace Go.Proofs.YtnnldpccagajbaaGreatDoor
open Go.ChangeShapes Go.WideShapes Go.ChangeAt Go.RowKit
set_option linter.unusedVariables false
def smallB (c : UInt8) : Bool := decide (97 ≤ c.toNat) && decide (c.toNat ≤ 122)
def wordB (c : UInt8) : Bool := smallB c || (decide (65 ≤ c.toNat) && decide (c.toNat ≤ 90)) || (decide (48 ≤ c.toNat) && decide (c.toNat ≤ 57)) || decide (c.toNat = 95)
def isName (s : List UInt8) : Bool := match s with
  | [] => false
  | c :: t => decide (s.length ≤ 30) && smallB c && !(s == [110, 111, 116]) && t.all wordB
theorem bool_eq {a b : Bool} (h : a = true ↔ b = true) : a = b := by cases a <;> cases b <;> simp_all
set_option maxRecDepth 100000 in
set_option maxHeartbeats 1000000 in
theorem small_any (c : UInt8) (w : World) :
    Calls Tryz.prog 61 #[.int .u8 (c.toNat : Int)] w fun e w' => e = .returned (.bool (smallB c)) ∧ w = w' := by
  have hc := byte_le c
  by_cases h1 : 97 ≤ c.toNat
  · by_cases h2 : c.toNat ≤ 122
    · have HE : Hid (smallB c = true) := by show _ = _; simp [smallB, h1, h2]
      go_enter Tryz.func61, Tryz.ntmps61
      go_wp2
      go_ret
      exact ⟨ret_bool (by rw [HE.out]; simp; omega), rfl⟩
    · have HE : Hid (smallB c = false) := by show _ = _; simp [smallB, h2]
      go_enter Tryz.func61, Tryz.ntmps61
      go_wp2
      go_ret
      exact ⟨ret_bool (by rw [HE.out]; simp; omega), rfl⟩
  · have HE : Hid (smallB c = false) := by show _ = _; simp [smallB, h1]
    go_enter Tryz.func61, Tryz.ntmps61
    go_wp2
    go_ret
    exact ⟨ret_bool (by rw [HE.out]), rfl⟩
set_option maxRecDepth 100000 in
set_option maxHeartbeats 1000000 in
theorem word_any (c : UInt8) (w : World) :
    Calls Tryz.prog 62 #[.int .u8 (c.toNat : Int)] w fun e w' => e = .returned (.bool (wordB c)) ∧ w = w' := by
  have hc := byte_le c
  cases hs : smallB c with
  | true =>
    have HE : Hid (wordB c = true) := by show _ = _; simp [wordB, hs]
    go_enter Tryz.func62, Tryz.ntmps62
    go_wp2_with fail
    refine (small_any c _).mono ?_
    rintro e w1 ⟨rfl, rfl⟩
    rw [hs]
    go_wp2
    go_ret
    exact ⟨ret_bool (by rw [HE.out]), rfl⟩
  | false =>
    have hw : wordB c = ((decide (65 ≤ c.toNat) && decide (c.toNat ≤ 90)) || (decide (48 ≤ c.toNat) && decide (c.toNat ≤ 57)) || decide (c.toNat = 95)) := by simp [wordB, hs]
    have HW : Hid (wordB c = ((decide (65 ≤ c.toNat) && decide (c.toNat ≤ 90)) || (decide (48 ≤ c.toNat) && decide (c.toNat ≤ 57)) || decide (c.toNat = 95))) := hw
    clear hw
    have HS : Hid (smallB c = false) := hs
    clear hs
    by_cases h1 : 65 ≤ c.toNat
    all_goals by_cases h2 : c.toNat ≤ 90
    all_goals by_cases h3 : 48 ≤ c.toNat
    all_goals by_cases h4 : c.toNat ≤ 57
    all_goals try (exfalso; omega)
    all_goals
      go_enter Tryz.func62, Tryz.ntmps62
      go_wp2_with fail
      refine (small_any c _).mono ?_
      rintro e w1 ⟨rfl, rfl⟩
      rw [HS.out]
      go_wp2
      all_goals go_ret
      all_goals refine ⟨ret_bool ?_, rfl⟩
      all_goals rw [HW.out]
      all_goals apply bool_eq
      all_goals simp
      all_goals omega
theorem name_step (l : List UInt8) (k : Nat) (c : UInt8) (hk : 1 ≤ k) (hc : l[k]? = some c) : (l.drop 1).take k = (l.drop 1).take (k - 1) ++ [c] := by
  obtain ⟨m, rfl⟩ : ∃ m, k = m + 1 := ⟨k - 1, by omega⟩
  have hl : m < (l.drop 1).length := by
    have : m + 1 < l.length := by
      rcases Nat.lt_or_ge (m + 1) l.length with h | h
      · exact h
      · rw [List.getElem?_eq_none h] at hc; cases hc
    simp; omega
  have he : (l.drop 1)[m]? = some c := by rw [List.getElem?_drop, Nat.add_comm]; exact hc
  rw [Nat.add_sub_cancel, List.take_succ_eq_append_getElem hl]
  rw [List.getElem?_eq_getElem hl] at he
  cases he; rfl
theorem name_of (s : ByteArray) (h0 : 0 < s.size) : isName s.data.toList = (decide (s.size ≤ 30) && smallB s[0] && !(s.data.toList == [110, 111, 116]) && (s.data.toList.drop 1).all wordB) := by
  have hl : 0 < s.data.toList.length := by simpa using h0
  have e : s.data.toList = s[0] :: s.data.toList.drop 1 := by
    conv => lhs; rw [← List.drop_zero (l := s.data.toList), List.drop_eq_getElem_cons hl]
    rfl
  have e2 : isName s.data.toList = isName (s[0] :: s.data.toList.drop 1) := by rw [← e]
  rw [e2, isName, ← e]
  simp
theorem name_get (s : ByteArray) (k : Nat) (h : k < s.size) : s.data.toList[k]? = some s[k] := by
  rw [List.getElem?_eq_getElem (by simpa using h)]; rfl
set_option maxRecDepth 100000 in
set_option maxHeartbeats 1000000 in
theorem risname_any (s : ByteArray) (w : World) (hs : s.size ≤ 140737488355328) :
    Calls Tryz.prog 33 #[.string s] w fun e w' => e = .returned (.bool (isName s.data.toList)) ∧ w = w' := by
  by_cases h0 : s.size = 0
  · have HE : Hid (isName s.data.toList = false) := by
      have : s.data.toList = [] := List.eq_nil_of_length_eq_zero (by simpa using h0)
      show _ = _; rw [this]; rfl
    have h0' : s.size < 1 := by omega
    clear h0
    go_enter Tryz.func33, Tryz.ntmps33
    go_wp2
    go_ret
    exact ⟨ret_bool HE.out.symm, rfl⟩
  · have hp : 0 < s.size := by omega
    have HN := name_of s hp
    have HNH : Hid (isName s.data.toList = (decide (s.size ≤ 30) && smallB s[0] && !(s.data.toList == [110, 111, 116]) && (s.data.toList.drop 1).all wordB)) := HN
    clear HN h0
    by_cases h30 : s.size ≤ 30
    · cases hsm : smallB s[0] with
      | false =>
        have HE : Hid (isName s.data.toList = false) := by show _ = _; rw [HNH.out, hsm]; simp
        have HSM : Hid (smallB s[0] = false) := hsm
        clear hsm
        go_enter Tryz.func33, Tryz.ntmps33
        go_wp2_with fail
        refine (small_any s[0] _).mono ?_
        rintro e w1 ⟨rfl, rfl⟩
        rw [HSM.out]
        go_wp2
        go_ret
        exact ⟨ret_bool HE.out.symm, rfl⟩
      | true =>
        have HSM : Hid (smallB s[0] = true) := hsm
        by_cases hnot : s.data.toList = [110, 111, 116]
        · have HE : Hid (isName s.data.toList = false) := by show _ = _; rw [HNH.out, hnot]; simp
          have hn2 : (s.toList == [110, 111, 116]) = true := by rw [toList_of, hnot]; rfl
          clear hsm hnot
          go_enter Tryz.func33, Tryz.ntmps33
          go_wp2_with fail
          refine (small_any s[0] _).mono ?_
          rintro e w1 ⟨rfl, rfl⟩
          rw [HSM.out]
          go_wp2
          go_ret
          exact ⟨ret_bool HE.out.symm, rfl⟩
        · have hn2 : (s.toList == [110, 111, 116]) = false := by rw [toList_of]; simp [hnot]
          have HNA : Hid (isName s.data.toList = (s.data.toList.drop 1).all wordB) := by show _ = _; rw [HNH.out, hsm]; simp [h30, hnot]
          clear hsm hnot
          go_enter Tryz.func33, Tryz.ntmps33
          go_wp2_with fail
          refine (small_any s[0] _).mono ?_
          rintro e w1 ⟨rfl, rfl⟩
          rw [HSM.out]
          go_wp2
          go_loop [3] (fun i => ∃ k : Nat, 1 ≤ k ∧ k ≤ s.size ∧ i = .int .i64 k ∧ Hid (((s.data.toList.drop 1).take (k - 1)).all wordB = true)) (fun i => s.size - (intOf i).toNat)
          case atStart => exact ⟨1, by omega, by omega, rfl, by simp [Hid]⟩
          case round =>
            obtain ⟨k, hk1, hk2, rfl, HA⟩ := hrel
            by_cases hlt : k < s.size
            · have hst := name_step s.data.toList k s[k] hk1 (name_get s k hlt)
              cases hw : wordB s[k] with
              | true =>
                have HA2 : Hid (((s.data.toList.drop 1).take (k + 1 - 1)).all wordB = true) := by
                  show _ = _
                  rw [Nat.add_sub_cancel, hst, List.all_append, HA.out]; simp [hw]
                have HW : Hid (wordB s[k] = true) := hw
                clear hw hst
                go_wp2_with fail
                refine (word_any s[k] _).mono ?_
                rintro e w2 ⟨rfl, rfl⟩
                rw [HW.out]
                go_wp2
                go_round
                case rel => exact ⟨k + 1, by omega, by omega, by go_num, HA2⟩
                case measure => simp [intOf]; omega
              | false =>
                have HE : Hid (isName s.data.toList = false) := by
                  show _ = _
                  rw [HNA.out, ← List.take_append_drop k (s.data.toList.drop 1), hst]
                  simp [hw]
                have HW : Hid (wordB s[k] = false) := hw
                clear hw hst
                go_wp2_with fail
                refine (word_any s[k] _).mono ?_
                rintro e w2 ⟨rfl, rfl⟩
                rw [HW.out]
                go_wp2
                go_ret
                exact ⟨ret_bool HE.out.symm, rfl⟩
            · have HE : Hid (isName s.data.toList = true) := by
                show _ = _
                have := HA.out
                rw [List.take_of_length_le (by simp; omega)] at this
                rw [HNA.out, this]
              go_wp2
              go_ret
              exact ⟨ret_bool HE.out.symm, rfl⟩
    · have HE : Hid (isName s.data.toList = false) := by show _ = _; rw [HNH.out]; simp [h30]
      have h30' : 30 < s.size := by omega
      clear h30
      go_enter Tryz.func33, Tryz.ntmps33
      go_wp2
      go_ret
      exact ⟨ret_bool HE.out.symm, rfl⟩
end Go.Proofs.YtnnldpccagajbaaGreatDoor
