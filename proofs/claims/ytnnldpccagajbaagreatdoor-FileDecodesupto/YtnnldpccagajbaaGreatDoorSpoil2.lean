import Derived.Test.YtnnldpccagajbaaGreatDoorSpoilF
/-
  The law's 'spoil', walked: it writes over the rows' own blocks alone.
-/
namespace Go.Proofs.YtnnldpccagajbaaGreatDoor
open Go.ChangeShapes Go.WideShapes Go.ChangeAt Go.RowKit
set_option linter.unusedVariables false
/-- a row that may be written over -/
def Soft2 (g0 base lim : Nat) (w : World) (x : Value) : Prop :=
  ∃ (a : Option Addr) (n cap : Nat), x = .slice a n cap ∧ n ≤ 1099511627776 ∧ (n = 0 ∨ ∃ g, a = some ⟨g, 0, none⟩ ∧ base ≤ g ∧ g < lim ∧ g ≠ g0 ∧ (∀ i, i < n → ∃ s, w.cell? ⟨g, i, none⟩ = some (.string s)) ∧ ∀ i, w.frozen? ⟨g, i, none⟩ = false)
theorem Soft2.set {g0 base lim : Nat} {w : World} {x : Value} (h : Soft2 g0 base lim w x) (g k : Nat) (s : ByteArray) (hc : ∃ t, w.cell? ⟨g, k, none⟩ = some (.string t)) : Soft2 g0 base lim (w.setCell ⟨g, k, none⟩ (.string s)) x := by
  obtain ⟨a, n, cap, rfl, hn, h0 | ⟨g', rfl, hb, hlm, hne, hcs, hf⟩⟩ := h
  · exact ⟨a, n, cap, rfl, hn, Or.inl h0⟩
  · refine ⟨_, n, cap, rfl, hn, Or.inr ⟨g', rfl, hb, hlm, hne, fun i hi => ?_, fun i => by rw [World.frozen?_setCell]; exact hf i⟩⟩
    by_cases e : (⟨g', i, none⟩ : Addr) = ⟨g, k, none⟩
    · obtain ⟨t, ht⟩ := hc
      cases e
      exact ⟨s, World.cell?_setCell_same _ _ _ ht⟩
    · obtain ⟨t, ht⟩ := hcs i hi
      exact ⟨t, by rw [World.cell?_setCell_other _ _ _ _ (fun h => e h.symm)]; exact ht⟩
theorem Soft2.nil {g0 base lim : Nat} {w : World} : Soft2 g0 base lim w (.slice none 0 0) := ⟨none, 0, 0, rfl, by omega, Or.inl rfl⟩
theorem Soft2.outer {g0 base lim : Nat} {w : World} {x : Value} (h : Soft2 g0 base lim w x) (k : Nat) (u : Value) : Soft2 g0 base lim (w.setCell ⟨g0, k, none⟩ u) x := by
  obtain ⟨a, n, cap, rfl, hn, h0 | ⟨g', rfl, hb, hlm, hne, hcs, hf⟩⟩ := h
  · exact ⟨a, n, cap, rfl, hn, Or.inl h0⟩
  · refine ⟨_, n, cap, rfl, hn, Or.inr ⟨g', rfl, hb, hlm, hne, fun i hi => ?_, fun i => by rw [World.frozen?_setCell]; exact hf i⟩⟩
    obtain ⟨t, ht⟩ := hcs i hi
    exact ⟨t, by rw [World.cell?_setCell_other _ _ _ _ (fun h => by cases h; exact hne rfl)]; exact ht⟩
theorem soft2_of {base lim g0 n cap : Nat} {w : World} {x : Value} {r : List (List UInt8)} {ys : List Value} (h : w.ownsRow base 9 1 x r.length (ts r)) (ho : w.ownsRow base 45 1 (.slice (some ⟨g0, 0, none⟩) n cap) n ys) (hr : r.length ≤ 1099511627776) (hx : ∀ g, x.ownBlock = some g → g < lim) : Soft2 g0 base lim w x := by
  rcases own_lies h with ⟨rfl, rfl⟩ | ⟨g, cap', rfl, hb, hc, hf⟩
  · exact Soft2.nil
  · exact ⟨_, _, _, rfl, hr, Or.inr ⟨g, rfl, hb, hx g rfl, inner_apart h ho g 0 cap' _ rfl, hc, hf⟩⟩
set_option maxRecDepth 100000 in
set_option maxHeartbeats 2000000 in
theorem spoil_gen (base lim : Nat) (P : World → Prop) (v : Value) (us : List Value) (L : List (List (List UInt8))) (w : World) (h : Deep base w v us L) (hl : L.length ≤ 1073741824) (hr : ∀ r ∈ L, r.length ≤ 1099511627776) (hv : ∀ g, v.ownBlock = some g → g < lim) (hu : ∀ (i : Nat) (x : Value), us[i]? = some x → ∀ g, x.ownBlock = some g → g < lim) (hP0 : P w) (HPS : Hid (∀ (wx : World) (g i : Nat) (u : Value), P wx → base ≤ g → g < lim → P (wx.setCell ⟨g, i, none⟩ u))) :
    Calls Tryz.prog 11 #[v] w fun e w' => e = .returned (.tuple #[]) ∧ P w' := by
  have HP0 : Hid (P w) := hP0
  have hul : us.length ≤ 1073741824 := by have := h.2.1; omega
  rcases h.1.2 with ⟨rfl, h0⟩ | ⟨g0, cap, cur, rfl, hb, hg, hn, hc, hs, ht⟩
  · rw [h0] at *
    clear h hr hu hP0
    go_enter Tryz.func11, Tryz.ntmps11
    go_wp2
    refine wp_loop_rounds 1 ?_
    rw [rounds_succ]
    go_wp2
    go_end0
    exact ⟨rfl, HP0.out⟩
  · have hgl : g0 < lim := hv g0 rfl
    have HS : Hid (∀ i, i < us.length → ∃ x, w.cell? ⟨g0, i, none⟩ = some x ∧ Soft2 g0 base lim w x) := by
      intro i hi
      have hil : i < L.length := by have := h.2.1; omega
      exact ⟨us[i], own_get h.1 i _ (val_at hi), soft2_of (h.2.2 i _ _ (val_at hi) (row_at hil)) h.1 (hr _ (List.getElem_mem hil)) (hu i _ (val_at hi))⟩
    have HF : Hid (∀ i, w.frozen? ⟨g0, i, none⟩ = false) := fun i => own_thaw h.1 i
    clear h hr hg hn hc hs ht hu hv hP0
    go_enter Tryz.func11, Tryz.ntmps11
    go_wp2
    go_loopw [2] (fun iv wr => ∃ k : Nat, k ≤ us.length ∧ iv = .int .i64 k ∧ Hid (∀ i, i < us.length → ∃ x, wr.cell? ⟨g0, i, none⟩ = some x ∧ Soft2 g0 base lim wr x) ∧ Hid (∀ i, wr.frozen? ⟨g0, i, none⟩ = false) ∧ Hid (P wr)) (fun iv _ => us.length - (intOf iv).toNat)
    case atStart => exact ⟨0, by omega, rfl, HS, HF, HP0⟩
    case round =>
      obtain ⟨k, hk, rfl, HX, HZ, HB⟩ := hrel
      by_cases hlt : k < us.length
      · obtain ⟨x, hx, hsx⟩ := HX.out k hlt
        obtain ⟨xa, xn, xc, rfl, hxn, -⟩ := hsx
        have HCX : Hid (wr.cell? ⟨g0, k, none⟩ = some (.slice xa xn xc)) := hx
        clear hx
        go_wp2
        go_loopw [3] (fun jv w2 => ∃ j : Nat, j ≤ xn ∧ jv = .int .i64 j ∧ Hid (w2.cell? ⟨g0, k, none⟩ = some (.slice xa xn xc)) ∧ Hid (∀ i, i < us.length → ∃ x, w2.cell? ⟨g0, i, none⟩ = some x ∧ Soft2 g0 base lim w2 x) ∧ Hid (∀ i, w2.frozen? ⟨g0, i, none⟩ = false) ∧ Hid (P w2)) (fun jv _ => xn - (intOf jv).toNat)
        case atStart => exact ⟨0, by omega, rfl, HCX, HX, HZ, HB⟩
        case round =>
          obtain ⟨j, hj, rfl, HC2, HX2, HZ2, HB2⟩ := hrel
          have cx := HC2.out
          by_cases hjn : j < xn
          · obtain ⟨x', hx', hs'⟩ := HX2.out k hlt
            rw [cx] at hx'
            cases hx'
            obtain ⟨a', n', c', he, -, h0 | ⟨g, hag, hbg, hgl2, hgne, hcs, hfz⟩⟩ := hs'
            · cases he; omega
            · cases he
              subst hag
              obtain ⟨t, ct⟩ := hcs j hjn
              have ft := hfz j
              have HT : Hid (∃ t, wr.cell? ⟨g, j, none⟩ = some (.string t)) := ⟨t, ct⟩
              clear hcs hfz
              go_wp2
              go_roundw
              case rel =>
                refine ⟨j + 1, by omega, by go_num, ?_, fun i hi => ?_, fun i => by rw [World.frozen?_setCell]; exact HZ2.out i, HPS.out _ g j _ HB2.out hbg hgl2⟩
                · show _ = _
                  rw [World.cell?_setCell_other _ _ _ _ (fun h => by cases h; exact hgne rfl)]; exact HC2.out
                · obtain ⟨y, hy, hsy⟩ := HX2.out i hi
                  exact ⟨y, by rw [World.cell?_setCell_other _ _ _ _ (fun h => by cases h; exact hgne rfl)]; exact hy, hsy.set g j _ HT.out⟩
              case measure => simp [intOf]; omega
          · have fz := HZ2.out k
            go_wp2
            go_roundw
            case rel =>
              refine ⟨k + 1, by omega, by go_num, fun i hi => ?_, fun i => by rw [World.frozen?_setCell]; exact HZ2.out i, HPS.out _ g0 k _ HB2.out hb hgl⟩
              by_cases hik : i = k
              · subst hik
                exact ⟨_, World.cell?_setCell_same _ _ _ HC2.out, Soft2.nil⟩
              · obtain ⟨y, hy, hsy⟩ := HX2.out i hi
                exact ⟨y, by rw [World.cell?_setCell_other _ _ _ _ (fun h => by cases h; exact hik rfl)]; exact hy, hsy.outer k _⟩
            case measure => simp [intOf]; omega
      · go_wp2
        go_end0
        exact ⟨rfl, HB.out⟩
end Go.Proofs.YtnnldpccagajbaaGreatDoor
