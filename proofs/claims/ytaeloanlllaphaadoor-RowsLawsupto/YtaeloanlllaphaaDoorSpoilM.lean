/-
  The law's 'spoil', walked: what lies between two bounds alone is written.
-/
import Derived.Test.YtaeloanlllaphaaDoorRisingL
namespace Go.Proofs.YtaeloanlllaphaaDoor
open Go.ChangeShapes Go.WideShapes Go.ChangeAt Go.RowKit
set_option linter.unusedVariables false
/-- what lies below lo, and from hi on, is as it was -/
structure Mid (lo hi : Nat) (w w' : World) : Prop where
  os : w'.os = w.os
  tape : w'.tape = w.tape
  output : w'.output = w.output
  size : w.heap.size ≤ w'.heap.size
  block : ∀ k, k < lo ∨ hi ≤ k → k < w.heap.size → w'.heap[k]? = w.heap[k]?
theorem Mid.refl (lo hi : Nat) (w : World) : Mid lo hi w w := ⟨rfl, rfl, rfl, Nat.le_refl _, fun _ _ _ => rfl⟩
theorem Mid.setCell {lo hi : Nat} {w w' : World} (h : Mid lo hi w w') {g k : Nat} (h1 : lo ≤ g) (h2 : g < hi) (u : Value) : Mid lo hi w (w'.setCell ⟨g, k, none⟩ u) :=
  ⟨h.os, h.tape, h.output, Nat.le_trans h.size (by simp [World.setCell]), fun j hj hl => (Below.heap_setCell _ _ _ _ (fun e => by have e2 : j = g := e; omega)).trans (h.block j hj hl)⟩
theorem Mid.below {lo hi : Nat} {w w' : World} (h : Mid lo hi w w') (hlo : lo ≤ w.heap.size) : Below lo w w' := ⟨h.os, h.tape, h.output, h.size, fun k hk => h.block k (Or.inl hk) (by omega)⟩
theorem Mid.own {lo hi : Nat} {w w' : World} (h : Mid lo hi w w') {base : Nat} {e : TypeId} {size : Nat} {v : Value} {n : Nat} {xs : List Value} (ho : w.ownsRow base e size v n xs) (hb : hi ≤ base) : w'.ownsRow base e size v n xs := by
  refine ⟨ho.1, ?_⟩
  rcases ho.2 with h3 | ⟨g, cap, cur, hv, hbg, hg, rest⟩
  · exact Or.inl h3
  · refine Or.inr ⟨g, cap, cur, hv, hbg, (h.block g (Or.inr (by omega)) ?_).trans hg, rest⟩
    rcases Nat.lt_or_ge g w.heap.size with h' | h'
    · exact h'
    · rw [Array.getElem?_eq_none h'] at hg; cases hg
theorem Mid.deep {lo hi base : Nat} {w w' : World} {v : Value} {us : List Value} {L : List (List (List UInt8))} (h : Mid lo hi w w') (hd : Deep base w v us L) (hb : hi ≤ base) : Deep base w' v us L :=
  ⟨h.own hd.1 hb, hd.2.1, fun i x r hx hr => h.own (hd.2.2 i x r hx hr) hb⟩
/-- a row that may be written over -/
def Soft (g0 base hi : Nat) (w : World) (x : Value) : Prop :=
  ∃ (a : Option Addr) (n cap : Nat), x = .slice a n cap ∧ n ≤ 1099511627776 ∧ (n = 0 ∨ ∃ g, a = some ⟨g, 0, none⟩ ∧ base ≤ g ∧ g < hi ∧ g ≠ g0 ∧ (∀ i, i < n → ∃ s, w.cell? ⟨g, i, none⟩ = some (.string s)) ∧ ∀ i, w.frozen? ⟨g, i, none⟩ = false)
theorem Soft.set {g0 base hi : Nat} {w : World} {x : Value} (h : Soft g0 base hi w x) (g k : Nat) (s : ByteArray) (hc : ∃ t, w.cell? ⟨g, k, none⟩ = some (.string t)) : Soft g0 base hi (w.setCell ⟨g, k, none⟩ (.string s)) x := by
  obtain ⟨a, n, cap, rfl, hn, h0 | ⟨g', rfl, hb, hlt, hne, hcs, hf⟩⟩ := h
  · exact ⟨a, n, cap, rfl, hn, Or.inl h0⟩
  · refine ⟨_, n, cap, rfl, hn, Or.inr ⟨g', rfl, hb, hlt, hne, fun i hil => ?_, fun i => by rw [World.frozen?_setCell]; exact hf i⟩⟩
    by_cases e : (⟨g', i, none⟩ : Addr) = ⟨g, k, none⟩
    · obtain ⟨t, ht⟩ := hc
      cases e
      exact ⟨s, World.cell?_setCell_same _ _ _ ht⟩
    · obtain ⟨t, ht⟩ := hcs i hil
      exact ⟨t, by rw [World.cell?_setCell_other _ _ _ _ (fun h => e h.symm)]; exact ht⟩
theorem Soft.nil {g0 base hi : Nat} {w : World} : Soft g0 base hi w (.slice none 0 0) := ⟨none, 0, 0, rfl, by omega, Or.inl rfl⟩
theorem Soft.outer {g0 base hi : Nat} {w : World} {x : Value} (h : Soft g0 base hi w x) (k : Nat) (u : Value) : Soft g0 base hi (w.setCell ⟨g0, k, none⟩ u) x := by
  obtain ⟨a, n, cap, rfl, hn, h0 | ⟨g', rfl, hb, hlt, hne, hcs, hf⟩⟩ := h
  · exact ⟨a, n, cap, rfl, hn, Or.inl h0⟩
  · refine ⟨_, n, cap, rfl, hn, Or.inr ⟨g', rfl, hb, hlt, hne, fun i hil => ?_, fun i => by rw [World.frozen?_setCell]; exact hf i⟩⟩
    obtain ⟨t, ht⟩ := hcs i hil
    exact ⟨t, by rw [World.cell?_setCell_other _ _ _ _ (fun h => by cases h; exact hne rfl)]; exact ht⟩
theorem own_lies {w : World} {base : Nat} {v : Value} {l : List (List UInt8)} (h : w.ownsRow base 9 1 v l.length (ts l)) :
    (v = .slice none 0 0 ∧ l = []) ∨ ∃ g cap, v = .slice (some ⟨g, 0, none⟩) l.length cap ∧ base ≤ g ∧ (∀ i, i < l.length → ∃ x, w.cell? ⟨g, i, none⟩ = some (.string x)) ∧ ∀ i, w.frozen? ⟨g, i, none⟩ = false := by
  rcases h.2 with ⟨rfl, h0⟩ | ⟨g, cap, cur, rfl, hb, hg, hn, hc, hs, ht⟩
  · exact Or.inl ⟨rfl, List.eq_nil_of_length_eq_zero h0⟩
  · exact Or.inr ⟨g, cap, rfl, hb, fun i hi => ⟨str l[i], own_get h i _ (ts_at (get_at hi))⟩, fun i => own_thaw h i⟩
theorem soft_of {base hi g0 n cap : Nat} {w : World} {x : Value} {r : List (List UInt8)} {ys : List Value} (h : w.ownsRow base 9 1 x r.length (ts r)) (ho : w.ownsRow base 33 1 (.slice (some ⟨g0, 0, none⟩) n cap) n ys) (hr : r.length ≤ 1099511627776) (hh : ∀ k, x.ownBlock = some k → k < hi) : Soft g0 base hi w x := by
  rcases own_lies h with ⟨rfl, rfl⟩ | ⟨g, cap', rfl, hb, hc, hf⟩
  · exact Soft.nil
  · exact ⟨_, _, _, rfl, hr, Or.inr ⟨g, rfl, hb, hh g rfl, inner_apart h ho g 0 cap' _ rfl, hc, hf⟩⟩
set_option maxRecDepth 100000 in
set_option maxHeartbeats 2000000 in
theorem spoilM_any (base hi : Nat) (v : Value) (us : List Value) (L : List (List (List UInt8))) (w : World) (h : Deep base w v us L) (hl : L.length ≤ 1099511627776) (hr : ∀ r ∈ L, r.length ≤ 1099511627776) (ho : ∀ k, v.ownBlock = some k → k < hi) (hx : ∀ x ∈ us, ∀ k, x.ownBlock = some k → k < hi) :
    Calls Tryd.prog 13 #[v] w fun e w' => e = .returned (.tuple #[]) ∧ Mid base hi w w' := by
  have hul : us.length ≤ 1099511627776 := by have := h.2.1; omega
  rcases h.1.2 with ⟨rfl, h0⟩ | ⟨g0, cap, cur, rfl, hb, hg, hn, hc, hs, ht⟩
  · rw [h0] at *
    clear h hr ho hx
    go_enter Tryd.func13, Tryd.ntmps13
    go_wp2
    refine wp_loop_rounds 1 ?_
    rw [rounds_succ]
    go_wp2
    go_end0
    exact ⟨rfl, Mid.refl _ _ _⟩
  · have HS : Hid (∀ i, i < us.length → ∃ x, w.cell? ⟨g0, i, none⟩ = some x ∧ Soft g0 base hi w x) := by
      intro i hiu
      have hil : i < L.length := by have := h.2.1; omega
      exact ⟨us[i], own_get h.1 i _ (val_at hiu), soft_of (h.2.2 i _ _ (val_at hiu) (row_at hil)) h.1 (hr _ (List.getElem_mem hil)) (hx _ (List.getElem_mem hiu))⟩
    have HF : Hid (∀ i, w.frozen? ⟨g0, i, none⟩ = false) := fun i => own_thaw h.1 i
    have hg0 : g0 < hi := ho g0 rfl
    clear h hr hg hn hc hs ht ho hx
    go_enter Tryd.func13, Tryd.ntmps13
    go_wp2
    go_loopw [2] (fun iv wr => ∃ k : Nat, k ≤ us.length ∧ iv = .int .i64 k ∧ Hid (∀ i, i < us.length → ∃ x, wr.cell? ⟨g0, i, none⟩ = some x ∧ Soft g0 base hi wr x) ∧ Hid (∀ i, wr.frozen? ⟨g0, i, none⟩ = false) ∧ Hid (Mid base hi w wr)) (fun iv _ => us.length - (intOf iv).toNat)
    case atStart => exact ⟨0, by omega, rfl, HS, HF, Mid.refl _ _ _⟩
    case round =>
      obtain ⟨k, hk, rfl, HX, HZ, HB⟩ := hrel
      by_cases hlt : k < us.length
      · obtain ⟨x, hx, hsx⟩ := HX.out k hlt
        obtain ⟨xa, xn, xc, rfl, hxn, -⟩ := hsx
        have HCX : Hid (wr.cell? ⟨g0, k, none⟩ = some (.slice xa xn xc)) := hx
        clear hx
        go_wp2
        go_loopw [3] (fun jv w2 => ∃ j : Nat, j ≤ xn ∧ jv = .int .i64 j ∧ Hid (w2.cell? ⟨g0, k, none⟩ = some (.slice xa xn xc)) ∧ Hid (∀ i, i < us.length → ∃ x, w2.cell? ⟨g0, i, none⟩ = some x ∧ Soft g0 base hi w2 x) ∧ Hid (∀ i, w2.frozen? ⟨g0, i, none⟩ = false) ∧ Hid (Mid base hi w w2)) (fun jv _ => xn - (intOf jv).toNat)
        case atStart => exact ⟨0, by omega, rfl, HCX, HX, HZ, HB⟩
        case round =>
          obtain ⟨j, hj, rfl, HC2, HX2, HZ2, HB2⟩ := hrel
          have cx := HC2.out
          by_cases hjn : j < xn
          · obtain ⟨x', hx', hs'⟩ := HX2.out k hlt
            rw [cx] at hx'
            cases hx'
            obtain ⟨a', n', c', he, -, h0 | ⟨g, hag, hbg, hgl, hgne, hcs, hfz⟩⟩ := hs'
            · cases he; omega
            · cases he
              subst hag
              obtain ⟨t, ct⟩ := hcs j hjn
              have ft := hfz j
              have HT : Hid (∃ t, wr.cell? ⟨g, j, none⟩ = some (.string t)) := ⟨t, ct⟩
              clear hcs hfz
              go_wp2
              go_roundw
              case rel =>
                refine ⟨j + 1, by omega, by go_num, ?_, fun i hil => ?_, fun i => by rw [World.frozen?_setCell]; exact HZ2.out i, HB2.out.setCell hbg hgl _⟩
                · show _ = _
                  rw [World.cell?_setCell_other _ _ _ _ (fun h => by cases h; exact hgne rfl)]; exact HC2.out
                · obtain ⟨y, hy, hsy⟩ := HX2.out i hil
                  exact ⟨y, by rw [World.cell?_setCell_other _ _ _ _ (fun h => by cases h; exact hgne rfl)]; exact hy, hsy.set g j _ HT.out⟩
              case measure => simp [intOf]; omega
          · have fz := HZ2.out k
            go_wp2
            go_roundw
            case rel =>
              refine ⟨k + 1, by omega, by go_num, fun i hil => ?_, fun i => by rw [World.frozen?_setCell]; exact HZ2.out i, HB2.out.setCell hb hg0 _⟩
              by_cases hik : i = k
              · subst hik
                exact ⟨_, World.cell?_setCell_same _ _ _ HC2.out, Soft.nil⟩
              · obtain ⟨y, hy, hsy⟩ := HX2.out i hil
                exact ⟨y, by rw [World.cell?_setCell_other _ _ _ _ (fun h => by cases h; exact hik rfl)]; exact hy, hsy.outer k _⟩
            case measure => simp [intOf]; omega
      · go_wp2
        go_end0
        exact ⟨rfl, HB.out⟩
theorem own_hi {w : World} {base : Nat} {e : TypeId} {size : Nat} {v : Value} {n : Nat} {xs : List Value} (h : w.ownsRow base e size v n xs) : ∀ k, v.ownBlock = some k → k < w.heap.size := fun k hk => (h.lt k hk).2
/-- spoilt in a later world: rows that were made ahead of the world w0 -/
theorem spoilt_any (base : Nat) (v : Value) (us : List Value) (L : List (List (List UInt8))) (w0 w : World) (h : Deep base w0 v us L) (hd : Deep base w v us L) (hl : L.length ≤ 1099511627776) (hr : ∀ r ∈ L, r.length ≤ 1099511627776) :
    Calls Tryd.prog 13 #[v] w fun e w' => e = .returned (.tuple #[]) ∧ Mid base w0.heap.size w w' :=
  spoilM_any base w0.heap.size v us L w hd hl hr (own_hi h.1) (fun x hx k hk => by
    obtain ⟨i, hi, rfl⟩ := List.getElem_of_mem hx
    have hil : i < L.length := by have := h.2.1; omega
    exact own_hi (h.2.2 i _ _ (val_at hi) (row_at hil)) k hk)
end Go.Proofs.YtaeloanlllaphaaDoor
