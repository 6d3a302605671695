import Derived.Test.YtdfbjnachakkhaaGreatDoorM10
import Derived.Maps.AppendAt
import Derived.Lib.OwnKind
namespace Go.Proofs.YtdfbjnachakkhaaGreatDoor
open Go.ChangeShapes Go.WideShapes Go.ChangeAt Go.RowKit
set_option linter.unusedVariables false
theorem own_set {w : World} {base : Nat} {e : TypeId} {g n cap : Nat} {xs : List Value} (h : w.ownsRow base e 1 (.slice (some ⟨g, 0, none⟩) n cap) n xs) (j : Nat) (u : Value) :
    (w.setCell ⟨g, j, none⟩ u).ownsRow base e 1 (.slice (some ⟨g, 0, none⟩) n cap) n (xs.set j u) := by
  refine ⟨by rw [List.length_set]; exact h.1, ?_⟩
  rcases h.2 with ⟨hv, _⟩ | ⟨g', cap', cur, hv, hb, hg, hn, hc, hs, ht⟩
  · cases hv
  · cases hv
    refine Or.inr ⟨g, cap, cur.setIfInBounds j u, rfl, hb, ?_, hn, hc, by simpa using hs, ?_⟩
    · simp only [World.setCell, Array.getElem?_modify, ↓reduceIte, hg, Option.map_some]; rfl
    · rw [Array.toList_setIfInBounds, List.take_set, ht]
theorem own_thaw {w : World} {base : Nat} {e : TypeId} {g n cap : Nat} {xs : List Value} (h : w.ownsRow base e 1 (.slice (some ⟨g, 0, none⟩) n cap) n xs) (j : Nat) : w.frozen? ⟨g, j, none⟩ = false := by
  rcases h.2 with ⟨hv, _⟩ | ⟨g', cap', cur, hv, hb, hg, hn, hc, hs, ht⟩
  · cases hv
  · cases hv
    unfold World.frozen?
    simp only [hg]
    simp
theorem own_vals {w : World} {base : Nat} {e : TypeId} {v : Value} {vs : List Value} {n : Nat} (h : w.ownsRow base e 1 v n vs) : Vals w v vs := by
  have h1 := h.1
  rw [Nat.mul_one] at h1
  subst h1
  rcases h.2 with ⟨rfl, h0⟩ | ⟨g, cap, cur, rfl, hb, hg, hn, hc, hs, ht⟩
  · exact ⟨none, 0, by rw [h0], Or.inl ⟨List.eq_nil_of_length_eq_zero h0, fun _ => rfl⟩⟩
  · refine ⟨some ⟨g, 0, none⟩, cap, rfl, Or.inr ⟨g, 0, rfl, fun i x hx => ?_⟩⟩
    have := h.cells (g := g) rfl i _ hx
    rw [show (⟨g, 0, none⟩ : Addr).add i = ⟨g, i, none⟩ from by unfold Addr.add; split <;> simp_all] at this
    rw [Nat.zero_add]; exact this
theorem infoRow : (Tryz.prog.info? 28).map (fun i => (i.zero, i.size, i.bytes)) = some (some (.slice none 0 0), 1, 24) := by kernel_rfl
theorem own_kept2 {w : World} {base : Nat} {e : TypeId} {size : Nat} {v : Value} {n : Nat} {xs : List Value} (h : w.ownsRow base e size v n xs) (m : Nat) : (w.drewN m).ownsRow base e size v n xs := by
  refine h.kept (row := none) ⟨rfl, rfl, rfl, Nat.le_refl _, fun _ _ _ => rfl⟩ ?_
  cases v.ownBlock with
  | none => exact Or.inl rfl
  | some g => exact Or.inr (by simp)
/-- one block alone may have been written, and blocks may be new -/
theorem grown_draws {w : World} {row : Option Nat} (n : Nat) : w.grownBy (w.drewN n) row := ⟨rfl, rfl, rfl, Nat.le_refl _, fun _ _ _ => rfl⟩
theorem grown_trans {a b c : World} {r s : Option Nat} (h : a.grownBy b r) (k : b.grownBy c s) (hs : ∀ g, s = some g → s = r ∨ a.heap.size ≤ g) : a.grownBy c r :=
  ⟨k.os.trans h.os, k.tape.trans h.tape, k.output.trans h.output, Nat.le_trans h.size k.size, fun i hi hne => by
    rw [k.block i (Nat.lt_of_lt_of_le hi h.size) (fun e => by
      rcases hs i e.symm with e2 | e2
      · exact hne (by rw [e, e2])
      · omega)]
    exact h.block i hi hne⟩
theorem grown_alloc {w : World} (o : Obj) (r : Option Nat) : w.grownBy (w.alloc o) r := ⟨rfl, rfl, rfl, by simp, fun k hk _ => Below.heap_alloc _ _ _ hk⟩
theorem grown_set {w : World} {g j : Nat} (u : Value) : w.grownBy (w.setCell ⟨g, j, none⟩ u) (some g) := ⟨rfl, rfl, rfl, by simp [World.setCell], fun k hk hne => Below.heap_setCell _ _ _ _ (fun e => hne (by rw [e]))⟩
theorem strs_grown {w w' : World} {v : Value} {l : List (List UInt8)} {row : Option Nat} (h : Strs w v l) (hg : w.grownBy w' row) (hne : ∀ b off cap n, v = .slice (some ⟨b, off, none⟩) n cap → some b ≠ row) : Strs w' v l := by
  obtain ⟨a, cap, rfl, hl⟩ := h
  refine ⟨a, cap, rfl, ?_⟩
  rcases hl with hl | ⟨b, off, rfl, hc⟩
  · exact Or.inl hl
  · exact Or.inr ⟨b, off, rfl, fun i x hx => hg.cell (hc i x hx) (hne b off cap _ rfl)⟩
theorem step_list (vs : List Value) (j : Nat) (c : Value) (hj : j < vs.length) : (vs.take (j + 1) ++ c :: vs.drop (j + 1)).set (j + 1) vs[j] = vs.take j ++ vs[j] :: vs.drop j := by
  have h1 : (vs.take (j + 1)).length = j + 1 := by simp; omega
  have h2 : vs.take (j + 1) = vs.take j ++ [vs[j]] := List.take_succ_eq_append_getElem hj
  have h3 : vs.drop j = vs[j] :: vs.drop (j + 1) := List.drop_eq_getElem_cons hj
  rw [List.set_append_right _ _ (by omega), h1, Nat.sub_self, List.set_cons_zero, h2, List.append_assoc]
  congr 1
  show vs[j] :: (vs[j] :: vs.drop (j + 1)) = vs[j] :: vs.drop j
  rw [← h3]
theorem at_gap (vs : List Value) (k : Nat) (c : Value) (hl : k ≤ vs.length) : (vs.take k ++ c :: vs.drop k)[k]? = some c := by
  have h1 : (vs.take k).length = k := by simp; omega
  rw [List.getElem?_append_right (by omega), h1, Nat.sub_self]; rfl
theorem below_gap (vs : List Value) (k j : Nat) (c : Value) (hj : j < k) (hl : k ≤ vs.length) : (vs.take k ++ c :: vs.drop k)[j]? = some (vs[j]'(by omega)) := by
  rw [List.getElem?_append_left (by simp; omega), List.getElem?_take_of_lt hj, List.getElem?_eq_getElem]
/-- a value put where its row belongs -/
def insV (vs : List Value) (L : List (List (List UInt8))) (r : List (List UInt8)) (x : Value) : List Value := if r ∈ L then vs else vs.take (ahead L r) ++ x :: vs.drop (ahead L r)
theorem ahead_le (L : List (List (List UInt8))) (r : List (List UInt8)) : ahead L r ≤ L.length := by
  unfold ahead; exact (List.takeWhile_sublist _).length_le
set_option maxRecDepth 100000 in
set_option maxHeartbeats 2000000 in
theorem put_grown (base : Nat) (v vr : Value) (vs : List Value) (L : List (List (List UInt8))) (r : List (List UInt8)) (m : Nat) (w : World) (hown : w.ownsRow base 28 1 v vs.length vs) (hbase : base ≤ w.heap.size)
    (hin : vs.length = L.length ∧ ∀ (i : Nat) (x : Value) (r : List (List UInt8)), vs[i]? = some x → L[i]? = some r → Strs w x r) (hr : Strs w vr r) (hL : Rises m L) (hm : r.length = m) (hl : L.length ≤ 1073741824) (hml : m ≤ 140737488355328) :
    Calls Tryz.prog 11 #[v, vr] w fun e w' => ∃ v', e = .returned v' ∧ w'.ownsRow base 28 1 v' (insV vs L r vr).length (insV vs L r vr) ∧ w.grownBy w' v.ownBlock := by
  obtain ⟨i0, hi, hz0, hz1, hz2⟩ := info_parts infoRow
  have HO : Hid (w.ownsRow base 28 1 v vs.length vs) := hown
  have HR2 : Hid (Rows2 w v vs L) := ⟨own_vals hown, hin.1, hin.2⟩
  have HR : Hid (Strs w vr r) := hr
  have HRI : Hid (Rises m L) := hL
  have hvl : vs.length ≤ 1073741824 := by rw [hin.1]; exact hl
  have hal : ahead L r ≤ vs.length := by rw [hin.1]; exact ahead_le L r
  have HM : Hid (r.length = m) := hm
  clear hown hin hr hL hm
  by_cases hmem : r ∈ L
  · have HV : Hid (insV vs L r vr = vs) := by show _ = _; rw [insV, if_pos hmem]
    have HD : Hid (decide (r ∈ L) = true) := by show _ = _; simp [hmem]
    clear hmem
    go_enter Tryz.func11, Tryz.ntmps11
    go_wp2_with fail
    refine (place_any v vr vs L r m _ HR2.out HR.out HRI.out HM.out (by omega) hml).mono ?_
    rintro e w1 ⟨rfl, hd1⟩
    obtain ⟨n1, rfl⟩ := hd1
    rw [HD.out]
    go_wp2
    go_ret
    exact ⟨_, rfl, by rw [HV.out]; exact own_kept2 HO.out n1, grown_draws n1⟩
  · have HV : Hid (insV vs L r vr = vs.take (ahead L r) ++ vr :: vs.drop (ahead L r)) := by show _ = _; rw [insV, if_neg hmem]
    have HD : Hid (decide (r ∈ L) = false) := by show _ = _; simp [hmem]
    clear hmem
    obtain ⟨k, HK⟩ : ∃ k, Hid (k = ahead L r) := ⟨ahead L r, rfl⟩
    rw [← HK.out] at hal HV
    have HRS : Hid (Strs w vr r) := HR.out
    obtain ⟨ar, capr, hvr, _⟩ := HR.out
    subst hvr
    go_enter Tryz.func11, Tryz.ntmps11
    go_wp2_with fail
    refine (place_any v _ vs L r m _ HR2.out HRS.out HRI.out HM.out (by omega) hml).mono ?_
    rintro e w1 ⟨rfl, hd1⟩
    obtain ⟨n1, rfl⟩ := hd1
    rw [HD.out, ← HK.out]
    have hown1 := own_kept2 HO.out n1
    go_wp2_with (at_builtin; refine wpList_append_own_at _ rfl _ _ 22 rfl base 28 i0 (.slice none 0 0) 1 24 Tryz.underlying22 hi hz0 hz1 hz2 rfl (by decide) _ _ _ rfl (hown1.alloc _) ⟨w.heap.size, 0, none⟩ 1 1 [.slice ar r.length capr] rfl rfl ?c1 ?c2 ?c3 ?c4 ?c5 ?_)
    case c1 =>
      intro j' u hj'
      match j', hj' with
      | 0, hj' => simp at hj'; subst hj'; exact World.cell?_alloc_at _ _ _ _ rfl
    case c2 => intro u hu; simp at hu; subst hu; rfl
    case c3 => unfold maxLen; omega
    case c4 => omega
    case c5 => simp; omega
    intro v2 w2 hown2 hg2 _ hat
    have HBW : Hid (w.grownBy w2 v.ownBlock) := ((grown_draws n1).trans (grown_alloc _ _)).trans hg2
    clear hg2 hown1
    rcases hown2.2 with ⟨_, h0⟩ | ⟨g, cap2, cur, hv2, hbg, _, _, _, _, _⟩
    · omega
    · subst hv2
      have HGG : Hid (∀ q, some g = some q → some g = v.ownBlock ∨ w.heap.size ≤ q) := by
        intro q hq
        cases hq
        rcases hat with e | e
        · exact Or.inl e
        · right
          have e2 : g = _ := Option.some.inj e
          first | omega | (simp at e2; omega)
      clear hat
      obtain ⟨x0, HX0⟩ : ∃ x0, Hid (x0 = Value.slice ar r.length capr) := ⟨_, rfl⟩
      have HO2 : Hid (w2.ownsRow base 28 1 (.slice (some ⟨g, 0, none⟩) (vs.length + 1) cap2) (vs.length + 1) (vs.take vs.length ++ Value.slice ar r.length capr :: vs.drop vs.length)) := by
        show _
        rw [List.take_length, List.drop_length]; exact hown2
      clear hown2
      go_wp2
      go_loopw [7] (fun kv wr => ∃ (j : Nat) (c : Value), k ≤ j ∧ j ≤ vs.length ∧ kv = .int .i64 j ∧ Hid (wr.ownsRow base 28 1 (.slice (some ⟨g, 0, none⟩) (vs.length + 1) cap2) (vs.length + 1) (vs.take j ++ c :: vs.drop j)) ∧ Hid (w.grownBy wr v.ownBlock)) (fun kv _ => (intOf kv).toNat)
      case atStart => exact ⟨vs.length, .slice ar r.length capr, hal, Nat.le_refl _, by go_num, HO2, HBW⟩
      case round =>
        obtain ⟨j, c, hj1, hj2, rfl, HOJ, HBJ⟩ := hrel
        have cj : wr.cell? ⟨g, j, none⟩ = some c := by
          have := HOJ.out.cells (g := g) rfl j _ (at_gap vs j c hj2)
          rw [show (⟨g, 0, none⟩ : Addr).add j = ⟨g, j, none⟩ from by unfold Addr.add; split <;> simp_all] at this
          exact this
        have fj := own_thaw HOJ.out j
        by_cases hlt : k < j
        · obtain ⟨i, rfl⟩ : ∃ i, j = i + 1 := ⟨j - 1, by omega⟩
          have hiv : i < vs.length := by omega
          have ci : wr.cell? ⟨g, i, none⟩ = some vs[i] := by
            have := HOJ.out.cells (g := g) rfl i _ (below_gap vs (i + 1) i c (by omega) hj2)
            rw [show (⟨g, 0, none⟩ : Addr).add i = ⟨g, i, none⟩ from by unfold Addr.add; split <;> simp_all] at this
            exact this
          have hil : i < L.length := by have := HR2.out.2.1; omega
          obtain ⟨ai, capi, hvi, _⟩ := HR2.out.2.2 i _ _ (val_at hiv) (row_at hil)
          have HO3 := own_set HOJ.out (i + 1) vs[i]
          rw [step_list vs i c hiv, hvi] at HO3
          have HO3H : Hid ((wr.setCell ⟨g, i + 1, none⟩ (.slice ai L[i].length capi)).ownsRow base 28 1 (.slice (some ⟨g, 0, none⟩) (vs.length + 1) cap2) (vs.length + 1) (vs.take i ++ (.slice ai L[i].length capi) :: vs.drop i)) := HO3
          rw [hvi] at ci
          clear HO3 hvi
          go_wp2
          go_roundw
          case rel => exact ⟨i, _, by omega, by omega, by go_num, HO3H, grown_trans HBJ.out (grown_set _) HGG.out⟩
          case measure => simp [intOf]
        · obtain rfl : j = k := by omega
          have HO3 := own_set HOJ.out j (.slice ar r.length capr)
          have hset : (vs.take j ++ c :: vs.drop j).set j (Value.slice ar r.length capr) = vs.take j ++ Value.slice ar r.length capr :: vs.drop j := by
            have h1 : (vs.take j).length = j := by simp; omega
            rw [List.set_append_right _ _ (by omega), h1, Nat.sub_self, List.set_cons_zero]
          rw [hset] at HO3
          have HO3H : Hid ((wr.setCell ⟨g, j, none⟩ (.slice ar r.length capr)).ownsRow base 28 1 (.slice (some ⟨g, 0, none⟩) (vs.length + 1) cap2) (vs.length + 1) (vs.take j ++ (.slice ar r.length capr) :: vs.drop j)) := HO3
          clear HO3 hset
          have HLN : Hid ((vs.take j ++ Value.slice ar r.length capr :: vs.drop j).length = vs.length + 1) := by show _ = _; simp; omega
          go_wp2
          go_ret
          exact ⟨_, rfl, by rw [HV.out, HLN.out]; exact HO3H.out, grown_trans HBJ.out (grown_set _) HGG.out⟩
theorem put_any (base : Nat) (v vr : Value) (vs : List Value) (L : List (List (List UInt8))) (r : List (List UInt8)) (m : Nat) (w : World) (hown : w.ownsRow base 28 1 v vs.length vs) (hbase : base ≤ w.heap.size)
    (hin : vs.length = L.length ∧ ∀ (i : Nat) (x : Value) (r : List (List UInt8)), vs[i]? = some x → L[i]? = some r → Strs w x r) (hr : Strs w vr r) (hL : Rises m L) (hm : r.length = m) (hl : L.length ≤ 1073741824) (hml : m ≤ 140737488355328) :
    Calls Tryz.prog 11 #[v, vr] w fun e w' => ∃ v', e = .returned v' ∧ w'.ownsRow base 28 1 v' (insV vs L r vr).length (insV vs L r vr) ∧ Below base w w' :=
  (put_grown base v vr vs L r m w hown hbase hin hr hL hm hl hml).mono fun e w' ⟨v', he, ho, hg⟩ => ⟨v', he, ho, (Below.refl base w).grown hg hbase (fun k hk => (hown.lt k hk).1)⟩
end Go.Proofs.YtdfbjnachakkhaaGreatDoor

namespace Go.Proofs.YtdfbjnachakkhaaGreatDoor
open Go.ChangeShapes Go.WideShapes Go.ChangeAt Go.RowKit
set_option linter.unusedVariables false
/-- rows in memory of one's own, the inner lists too -/
def Deep (base : Nat) (w : World) (v : Value) (vs : List Value) (L : List (List (List UInt8))) : Prop :=
  w.ownsRow base 28 1 v vs.length vs ∧ vs.length = L.length ∧ ∀ (i : Nat) (x : Value) (r : List (List UInt8)), vs[i]? = some x → L[i]? = some r → w.ownsRow base 9 1 x r.length (ts r)
theorem own_below {w w' : World} {base : Nat} {e : TypeId} {size : Nat} {v : Value} {n : Nat} {xs : List Value} (h : w.ownsRow base e size v n xs) (hb : Below w.heap.size w w') : w'.ownsRow base e size v n xs := by
  refine h.kept (row := none) ⟨hb.os, hb.tape, hb.output, hb.size, fun k hk _ => hb.block k hk⟩ ?_
  cases v.ownBlock with
  | none => exact Or.inl rfl
  | some g => exact Or.inr (by simp)
theorem own_mono {w : World} {b b' : Nat} {e : TypeId} {size : Nat} {v : Value} {n : Nat} {xs : List Value} (h : w.ownsRow b e size v n xs) (hb : b' ≤ b) : w.ownsRow b' e size v n xs := by
  obtain ⟨hl, h0 | ⟨g, cap, cur, hv, hg, r⟩⟩ := h
  · exact ⟨hl, Or.inl h0⟩
  · exact ⟨hl, Or.inr ⟨g, cap, cur, hv, Nat.le_trans hb hg, r⟩⟩
theorem kind_ne {w : World} {b1 b2 n1 n2 : Nat} {e1 e2 : TypeId} {v1 v2 : Value} {xs ys : List Value} (h1 : w.ownsRow b1 e1 1 v1 n1 xs) (h2 : w.ownsRow b2 e2 1 v2 n2 ys) (he : e1 ≠ e2) : v1.ownBlock = none ∨ v1.ownBlock ≠ v2.ownBlock := by
  cases h : v1.ownBlock with
  | none => exact Or.inl rfl
  | some g =>
    right
    intro h3
    obtain ⟨c1, f1, k1⟩ := Lib.ownsRow_kind h1 g h
    obtain ⟨c2, f2, k2⟩ := Lib.ownsRow_kind h2 g h3.symm
    rw [k1] at k2
    cases k2
    exact he rfl
theorem Deep.rows {base : Nat} {w : World} {v : Value} {vs : List Value} {L : List (List (List UInt8))} (h : Deep base w v vs L) : Rows2 w v vs L :=
  ⟨own_vals h.1, h.2.1, fun i x r hx hr => own_strs (h.2.2 i x r hx hr)⟩
theorem Deep.kept {base : Nat} {w w' : World} {v : Value} {vs : List Value} {L : List (List (List UInt8))} (h : Deep base w v vs L) (hb : Below w.heap.size w w') : Deep base w' v vs L :=
  ⟨own_below h.1 hb, h.2.1, fun i x r hx hr => own_below (h.2.2 i x r hx hr) hb⟩
theorem Rows2.kept {w w' : World} {v : Value} {vs : List Value} {L : List (List (List UInt8))} (h : Rows2 w v vs L) (hb : Below w.heap.size w w') : Rows2 w' v vs L := by
  obtain ⟨⟨a, cap, hv, hc⟩, hl, hi⟩ := h
  refine ⟨⟨a, cap, hv, ?_⟩, hl, fun i x r hx hr => (hi i x r hx hr).kept hb⟩
  rcases hc with hc | ⟨b, off, ha, hc⟩
  · exact Or.inl hc
  · refine Or.inr ⟨b, off, ha, fun i x hx => ?_⟩
    rw [hb.cell (p := ⟨b, off + i, none⟩) (World.block_lt_of_cell? w ⟨b, off + i, none⟩ (hc i x hx))]; exact hc i x hx
set_option maxRecDepth 100000 in
set_option maxHeartbeats 1000000 in
theorem rowsOf_any (v : Value) (vs : List Value) (L : List (List (List UInt8))) (w : World) (h : Rows2 w v vs L) (hl : L.length ≤ 1073741824) (hr : ∀ r ∈ L, r.length ≤ 1099511627776) :
    Calls Tryz.prog 17 #[v] w fun e w' => (∃ v' us, e = .returned v' ∧ Deep w.heap.size w' v' us L) ∧ Below w.heap.size w w' := by
  obtain ⟨i0, hi, hz0, hz1, hz2⟩ := info_parts infoRow
  have HH : Hid (Rows2 w v vs L) := h
  have HRR : Hid (∀ r ∈ L, r.length ≤ 1099511627776) := hr
  obtain ⟨⟨a, cap, rfl, hv⟩, hlen, -⟩ := h
  clear hr
  rcases hv with ⟨rfl, _⟩ | ⟨b, off, rfl, hc⟩
  · have hL0 : L = [] := List.eq_nil_of_length_eq_zero (by simpa using hlen.symm)
    subst hL0
    clear hlen
    go_enter Tryz.func17, Tryz.ntmps17
    go_wp2
    refine wp_loop_rounds 1 ?_
    rw [rounds_succ]
    go_wp2
    go_ret
    exact ⟨⟨_, [], rfl, World.ownsRow_nil _ _ _ _, rfl, fun i x r hx => by simp at hx⟩, Below.refl _ _⟩
  · have HC : Hid (∀ (i : Nat) (x : Value), vs[i]? = some x → w.cell? ⟨b, off + i, none⟩ = some x) := hc
    have HLE : Hid (vs.length = L.length) := hlen
    have hvl : vs.length ≤ 1073741824 := by omega
    clear hc hlen
    go_enter Tryz.func17, Tryz.ntmps17
    go_wp2
    go_loopw [3, 4] (fun lv iv wr => ∃ (k : Nat) (us : List Value), k ≤ vs.length ∧ iv = .int .i64 k ∧ Hid (us.length = k) ∧ Hid (Deep w.heap.size wr lv us (L.take k)) ∧ Hid (Below w.heap.size w wr)) (fun _ iv _ => vs.length - (intOf iv).toNat)
    case atStart => exact ⟨0, [], by omega, rfl, rfl, ⟨World.ownsRow_nil _ _ _ _, rfl, fun i x r hx => by simp at hx⟩, Below.refl _ _⟩
    case round =>
      obtain ⟨k, us, hk, rfl, HUL, HD, HB⟩ := hrel
      by_cases hlt : k < vs.length
      · have hltL : k < L.length := by have := HLE.out; omega
        have cx0 := HC.out k vs[k] (val_at hlt)
        have hst := HH.out.2.2 k _ _ (val_at hlt) (row_at hltL)
        have hbw : b < w.heap.size := World.block_lt_of_cell? w ⟨b, off + k, none⟩ cx0
        have cx := (HB.out.cell (p := ⟨b, off + k, none⟩) hbw).trans cx0
        have hrowl : L[k].length ≤ 1099511627776 := HRR.out _ (List.getElem_mem hltL)
        clear cx0
        obtain ⟨row, HRW⟩ : ∃ row, Hid (row = L[k]) := ⟨L[k], rfl⟩
        rw [← HRW.out] at hst hrowl
        have HST : Hid (Strs w vs[k] row) := hst
        obtain ⟨ax, capx, hxe, -⟩ := hst
        rw [hxe] at cx HST
        clear hxe
        go_wp2_with fail
        refine (copied_any _ row _ (HST.out.kept HB.out) (by omega)).mono ?_
        rintro e w1 ⟨⟨v1, rfl, hown1⟩, hb1⟩
        have HO1 : Hid (w1.ownsRow wr.heap.size 9 1 v1 row.length (ts row)) := hown1
        have HD1 : Hid (Deep w.heap.size w1 u3 us (L.take k)) := HD.out.kept hb1
        have HB1 : Hid (Below w.heap.size w w1) := HB.out.trans (hb1.mono HB.out.size)
        have hul : us.length ≤ 1073741824 := by have := HUL.out; omega
        clear hown1 hb1
        have hown3 := HD1.out.1
        obtain ⟨a1, cp1, hv1⟩ : ∃ a1 cp1, v1 = .slice a1 row.length cp1 := by
          rcases HO1.out.2 with ⟨h, h0⟩ | ⟨g, cp, cu, h, _⟩
          · exact ⟨none, 0, by rw [h, h0]⟩
          · exact ⟨_, _, h⟩
        subst hv1
        obtain ⟨a3, n3, cp3, hv3⟩ : ∃ a3 n3 cp3, u3 = .slice a3 n3 cp3 := by
          rcases hown3.2 with ⟨h, h0⟩ | ⟨g, cp, cu, h, _⟩
          · exact ⟨_, _, _, h⟩
          · exact ⟨_, _, _, h⟩
        subst hv3
        go_wp2_with (at_builtin; refine wpList_append_own _ rfl _ _ 22 rfl w.heap.size 28 i0 (.slice none 0 0) 1 24 Tryz.underlying22 hi hz0 hz1 hz2 rfl (by decide) _ _ _ rfl (hown3.alloc _) ⟨w1.heap.size, 0, none⟩ 1 1 [.slice a1 row.length cp1] rfl rfl ?c1 ?c2 ?c3 ?c4 ?c5 ?_)
        case c1 =>
          intro j' u hj'
          match j', hj' with
          | 0, hj' => simp at hj'; subst hj'; exact World.cell?_alloc_at _ _ _ _ rfl
        case c2 => intro u hu; simp at hu; subst hu; rfl
        case c3 => unfold maxLen; omega
        case c4 => omega
        case c5 => have := HB1.out.size; simp; omega
        intro v2 w2 hown2 hg2 _
        have HBW : Hid (Below w.heap.size w w2) := (HB1.out.alloc HB1.out.size _).grown hg2 (by have := HB1.out.size; simp; omega) (fun g hg => (hown3.lt g hg).1)
        have hka := own_below HO1.out ((Below.refl w1.heap.size w1).alloc (Nat.le_refl _) (Obj.cells #[.slice a1 row.length cp1] 28))
        have HDN : Hid (Deep w.heap.size w2 v2 (us ++ [.slice a1 row.length cp1]) (L.take (k + 1))) := by
          have hul2 := HUL.out
          have hte : L.take (k + 1) = L.take k ++ [row] := by rw [HRW.out]; exact (List.take_append_getElem hltL).symm
          rw [hte]
          refine ⟨by rw [List.length_append]; exact hown2, by simp [hul2]; omega, fun i x r hx hr => ?_⟩
          have hbA : Below w1.heap.size w1 (w1.alloc (Obj.cells #[.slice a1 row.length cp1] 28)) := (Below.refl w1.heap.size w1).alloc (Nat.le_refl _) _
          by_cases hik : i < k
          · rw [List.getElem?_append_left (by omega)] at hx
            rw [List.getElem?_append_left (by simp; omega)] at hr
            have h0 := own_below (HD1.out.2.2 i x r hx hr) hbA
            exact h0.kept hg2 (kind_ne h0 (hown3.alloc _) (by decide))
          · have hik2 : i = k := by
              have := (List.getElem?_eq_some_iff.1 hx).1
              simp at this; omega
            subst hik2
            rw [List.getElem?_append_right (by omega)] at hx
            rw [List.getElem?_append_right (by simp; omega)] at hr
            have e1 : i - us.length = 0 := by omega
            have e2 : i - (L.take i).length = 0 := by simp; omega
            rw [e1] at hx
            rw [e2] at hr
            simp at hx hr
            subst hx
            subst hr
            exact (own_mono hka HB.out.size).kept hg2 (kind_ne hka (hown3.alloc _) (by decide))
        clear hown2 hg2 hka hown3
        go_wp2
        exact ⟨⟨k + 1, _, by omega, rfl, by show _ = _; rw [List.length_append, HUL.out]; rfl, HDN, HBW⟩, by simp [intOf]; omega⟩
      · have HE : Hid (L.take k = L) := List.take_of_length_le (by have := HLE.out; omega)
        go_wp2
        go_ret
        exact ⟨⟨_, us, rfl, by rw [HE.out] at HD; exact HD.out⟩, HB.out⟩
end Go.Proofs.YtdfbjnachakkhaaGreatDoor
