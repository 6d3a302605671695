import Derived.Test.YtdfbjnachakkhaaGreatDoorM21
namespace Go.Proofs.YtdfbjnachakkhaaGreatDoor
open Go.ChangeShapes Go.WideShapes Go.ChangeAt Go.RowKit Go.Hands Go.WideMaps Go.Maps
set_option linter.unusedVariables false
set_option maxRecDepth 100000
/-- eight noughts -/
def zr8 : List Nat := [0, 0, 0, 0, 0, 0, 0, 0]
theorem zr8_row : Row8N zr8 := ⟨rfl, fun n hn => by simp [zr8] at hn; omega⟩
theorem mask0 {a : List Nat} (h : Row8N a) : maskR 0 a = zr8 := by
  unfold maskR
  rw [h.1]; rfl
theorem posK0 (rows : List (List Nat)) (h : ∀ a ∈ rows, Row8N a) : ∀ k, k ≤ rows.length → posK 0 rows k zr8 = List.range k
  | 0, _ => rfl
  | k + 1, hk => by
    have hx : rows.getD k [] ∈ rows := by
      rw [List.getD_eq_getElem?_getD, List.getElem?_eq_getElem (by omega)]; exact List.getElem_mem _
    simp only [posK, updF]
    rw [mask0 (h _ hx), if_pos rfl, posK0 rows h k (by omega), List.range_succ]
theorem numV_range (m : Nat) : numV (List.range m) = upV m := rfl
theorem RelX.rok {base R ix im n : Nat} {rows : List (List Nat)} {old now : Nat} {w : World} {vr vu : Value} (h : RelX base R ix im n rows old now w vr vu) : ∀ a ∈ rows, Row8N a := by
  rcases h with ⟨_, rfl, _⟩ | ⟨_, _, h⟩
  · intro a ha; simp at ha
  · exact fun a ha => (h.rok a ha).1
/-- what the function that hands out rows looks at -/
structure RowsC (b R m : Nat) (w : World) : Prop where
  c1 : w.heap[b]? = some (.cells #[.pointer (some ⟨R, 0, none⟩)] 137 (0, 0))
  c2 : w.heap[b + 1]? = some (.cells #[.int .i64 0] 244 (0, 0))
  c3 : w.heap[b + 1 + 1]? = some (.cells #[.int .i64 0, .int .i64 0, .int .i64 0, .int .i64 0, .int .i64 0, .int .i64 0, .int .i64 0, .int .i64 0] 193 (0, 0))
  c4 : w.heap[b + 1 + 1 + 1]? = some (.cells #[.int .i64 0, .int .i64 (m : Nat)] 164 (0, 0))
theorem al4_0 (w : World) (a b c d : Obj) : ((((w.alloc a).alloc b).alloc c).alloc d).heap[w.heap.size]? = some a := by
  rw [Below.heap_alloc _ _ _ (by simp; omega)]; exact al3_0 _ _ _ _
theorem al4_1 (w : World) (a b c d : Obj) : ((((w.alloc a).alloc b).alloc c).alloc d).heap[w.heap.size + 1]? = some b := by
  rw [Below.heap_alloc _ _ _ (by simp)]; exact al3_1 _ _ _ _
theorem al4_2 (w : World) (a b c d : Obj) : ((((w.alloc a).alloc b).alloc c).alloc d).heap[w.heap.size + 1 + 1]? = some c := by
  rw [Below.heap_alloc _ _ _ (by simp)]; exact al3_2 _ _ _ _
theorem al4_3 (w : World) (a b c d : Obj) : ((((w.alloc a).alloc b).alloc c).alloc d).heap[w.heap.size + 1 + 1 + 1]? = some d := by
  have := heap_alloc_new (((w.alloc a).alloc b).alloc c) d
  rw [World.size_alloc, World.size_alloc, World.size_alloc] at this; exact this
set_option maxHeartbeats 1000000 in
theorem relRows_any (R m : Nat) (w : World) :
    Calls Tryz.prog 186 #[.pointer (some ⟨R, 0, none⟩), .int .i64 0, .agg #[.int .i64 0, .int .i64 0, .int .i64 0, .int .i64 0, .int .i64 0, .int .i64 0, .int .i64 0, .int .i64 0], .agg #[.int .i64 0, .int .i64 (m : Nat)]] w fun e w' => e = .returned (.func (.func 201) #[] #[.pointer (some ⟨w.heap.size, 0, none⟩), .pointer (some ⟨w.heap.size + 1, 0, none⟩), .pointer (some ⟨w.heap.size + 1 + 1, 0, none⟩), .pointer (some ⟨w.heap.size + 1 + 1 + 1, 0, none⟩)]) ∧ RowsC w.heap.size R m w' ∧ w.grownBy w' none := by
  go_enter Tryz.func186, Tryz.ntmps186
  go_wp2
  go_ret
  exact ⟨rfl, ⟨al4_0 _ _ _ _ _, al4_1 _ _ _ _ _, al4_2 _ _ _ _ _, al4_3 _ _ _ _ _⟩, fr_both (fr_both (fr_both (fr_alloc _ _ _) (fr_alloc _ _ _)) (fr_alloc _ _ _)) (fr_alloc _ _ _)⟩
/-- what one who gets ways may write: his lists -/
def isOut (o : Obj) : Prop := ∃ cur t fz, o = .cells cur t fz ∧ (t = 4 ∨ t = 28 ∨ t = 22)
/-- .. and the way itself -/
def Zc0 (gw : Nat) (k : Nat) (o : Obj) : Prop := (k = gw ∧ ¬ isRec o) ∨ isOut o
theorem isOut_cells {cur : Array Value} {t : TypeId} {fz : Nat × Nat} (h : isOut (.cells cur t fz)) : t = 4 ∨ t = 28 ∨ t = 22 := by
  obtain ⟨c, t', f, e, h⟩ := h
  cases e; exact h
theorem frt_toS {Z : Nat → Obj → Prop} {A C : World} (h : FrT Z A C) : FrS (fun i => ∃ o, A.heap[i]? = some o ∧ Z i o) A C :=
  ⟨h.os, h.tape, h.output, h.size, fun i hi hn => by
    have h1 : A.heap[i]? = some A.heap[i] := Array.getElem?_eq_getElem hi
    rw [h1]; exact h.block i _ h1 (fun hz => hn ⟨_, h1, hz⟩)⟩
theorem RelX.out {base R ix im n gw : Nat} {rows : List (List Nat)} {old now : Nat} {w w' : World} {vr vu : Value} (h : RelX base R ix im n rows old now w vr vu) (hf : FrT (Zc0 gw) w w') (hg : w.heap.size ≤ gw) : RelX base R ix im n rows old now w' vr vu := by
  have hmap : ∀ i es ck, w.heap[i]? = some (.map es ck) → ¬ ∃ o, w.heap[i]? = some o ∧ Zc0 gw i o := by
    rintro i es ck hi ⟨o, ho, ⟨h1, _⟩ | ⟨c, t, f, rfl, _⟩⟩
    · have := (Array.getElem?_eq_some_iff.1 hi).1; omega
    · rw [hi] at ho; cases ho
  have hcel : ∀ i cur t fz, w.heap[i]? = some (.cells cur t fz) → t ≠ 4 → t ≠ 28 → t ≠ 22 → ¬ ∃ o, w.heap[i]? = some o ∧ Zc0 gw i o := by
    rintro i cur t fz hi n1 n2 n3 ⟨o, ho, ⟨h1, _⟩ | h1⟩
    · have := (Array.getElem?_eq_some_iff.1 hi).1; omega
    · rw [hi] at ho; cases ho
      rcases isOut_cells h1 with e | e | e
      · exact n1 e
      · exact n2 e
      · exact n3 e
  refine h.kept (frt_toS hf) (hcel R _ _ _ h.blk (by decide) (by decide) (by decide)) ?_ ?_ (fun g cur e fz _ hg he => ?_)
  · rcases h with ⟨_, _, _, _, _, h6, _⟩ | ⟨DM, vf, h⟩
    · obtain ⟨es, ck, hq, _⟩ := h6; exact hmap ix es ck hq
    · obtain ⟨es, ck, hq, _⟩ := h.ixm; exact hmap ix es ck hq
  · rcases h with ⟨h1, _, _, _, h5, _⟩ | ⟨DM, vf, h⟩
    · rw [h1]; exact hcel R _ _ _ h5 (by decide) (by decide) (by decide)
    · obtain ⟨es, ck, hq, _⟩ := h.idx.own; exact hmap im es ck hq
  · rcases he with he | he <;> (subst he; exact hcel g cur _ fz hg (by decide) (by decide) (by decide))
end Go.Proofs.YtdfbjnachakkhaaGreatDoor

namespace Go.Proofs.YtdfbjnachakkhaaGreatDoor
open Go.ChangeShapes Go.WideShapes Go.ChangeAt Go.RowKit Go.Hands Go.WideMaps Go.Maps
set_option linter.unusedVariables false
set_option maxRecDepth 100000
theorem zc_map {w : World} {gw i : Nat} {es : _} {ck : Nat} (hg : w.heap.size ≤ gw) (hi : w.heap[i]? = some (.map es ck)) : ¬ ∃ o, w.heap[i]? = some o ∧ Zc0 gw i o := by
  rintro ⟨o, ho, ⟨h1, _⟩ | ⟨c, t, f, rfl, _⟩⟩
  · have := (Array.getElem?_eq_some_iff.1 hi).1; omega
  · rw [hi] at ho; cases ho
theorem zc_cel {w : World} {gw i : Nat} {cur : Array Value} {t : TypeId} {fz : Nat × Nat} (hg : w.heap.size ≤ gw) (hi : w.heap[i]? = some (.cells cur t fz)) (n1 : t ≠ 4) (n2 : t ≠ 28) (n3 : t ≠ 22) : ¬ ∃ o, w.heap[i]? = some o ∧ Zc0 gw i o := by
  rintro ⟨o, ho, ⟨h1, _⟩ | h1⟩
  · have := (Array.getElem?_eq_some_iff.1 hi).1; omega
  · rw [hi] at ho; cases ho
    rcases isOut_cells h1 with e | e | e
    · exact n1 e
    · exact n2 e
    · exact n3 e
theorem own_old {w : World} {base : Nat} {e : TypeId} {size : Nat} {v : Value} {n : Nat} {xs : List Value} (h : w.ownsRow base e size v n xs) {g : Nat} (hv : v.ownBlock = some g) : base ≤ g ∧ g < w.heap.size := by
  rcases h.2 with ⟨rfl, _⟩ | ⟨g', cap, cur, rfl, hbg, hg, _⟩
  · cases hv
  · cases hv; exact ⟨hbg, (Array.getElem?_eq_some_iff.1 hg).1⟩
/-- the list of all rows' numbers -/
theorem index0_y (base R ix im n gw : Nat) (rows : List (List Nat)) (old now : Nat) (w0 w : World) (vr vu : Value) (h : RelX base R ix im n rows old now w0 vr vu) (hf : FrT (Zc0 gw) w0 w) (hg : w0.heap.size ≤ gw) (hn : n ≤ 8) (hrl : rows.length ≤ 1000000) (hb : base ≤ w.heap.size) :
    Calls Tryz.prog 172 #[.pointer (some ⟨R, 0, none⟩), .int .i64 0] w fun e w' => ∃ im' k DM vf, e = .returned (.map (some im')) ∧ Idx base im' k w' DM vf (posK 0 rows rows.length) ∧ w.grownBy w' (some ix) ∧ ∀ g, (vf zr8).ownBlock = some g → g < w0.heap.size ∨ w.heap.size ≤ g := by
  have e0 : (((2 ^ 0 - 1 : Nat)) : Int) = 0 := rfl
  have hfS := frt_toS hf
  rcases h with ⟨_, rfl, rfl, rfl, h5, h6, _⟩ | ⟨DM, vf, h⟩
  · replace h5 := (hfS.block R (Array.getElem?_eq_some_iff.1 h5).1 (zc_cel hg h5 (by decide) (by decide) (by decide))).trans h5
    replace h6 := hfS.map h6 (by obtain ⟨es, ck, hq, _⟩ := h6; exact zc_map hg hq)
    have := index_new R ix n 0 0 base (.map []) (.slice none 0 0) [] w (by omega) (cell_of h5 1 _ (relC1 _ _ _ _ _ _)) (cell_of h5 5 _ (relC5 _ _ _ _ _ _)) h6 (by omega) rfl (World.ownsRow_nil _ _ _ _) (fun a ha => by simp at ha) (by simp)
    rw [e0] at this
    refine this.mono ?_
    rintro e w' ⟨im', DM, vf, rfl, _, hI, _, hG⟩
    exact ⟨im', _, DM, vf, rfl, ⟨hI.own, hI.at', fun a ha => own_lower (hI.rows a ha) hb, hI.apart⟩, hG, fun g hv => .inr (own_old (hI.rows zr8 zr8_row) hv).1⟩
  · have hold : ∀ g, (vf zr8).ownBlock = some g → g < w0.heap.size := fun g hv => (own_old (h.idx.rows zr8 zr8_row) hv).2
    replace h := h.kept hfS (zc_cel hg h.blk (by decide) (by decide) (by decide)) (by obtain ⟨es, ck, hq, _⟩ := h.ixm; exact zc_map hg hq) (by obtain ⟨es, ck, hq, _⟩ := h.idx.own; exact zc_map hg hq) (fun g cur e fz _ hgc he => by
      rcases he with he | he <;> (subst he; exact zc_cel hg hgc (by decide) (by decide) (by decide)))
    by_cases h0 : n = 0
    · subst h0
      have := index_known R ix 1 (Dix 0 im) (2 ^ 0 - 1) im w (cell_of h.blk 5 _ (relC5 _ _ _ _ _ _)) h.ixm (by decide) (Dix_at 0 im _) (Dix_has 0 im)
      rw [e0] at this
      refine this.mono ?_
      rintro e w' ⟨rfl, rfl⟩
      exact ⟨im, _, DM, vf, rfl, h.idx, fr_refl _ _, fun g hv => .inl (hold g hv)⟩
    · have hh : Maps.has (Dix n im) (.int .i64 ((2 ^ 0 - 1 : Nat) : Int)) = false := by
        refine Dix_other n im _ (fun e => ?_)
        injection e with _ e
        have h2 : 2 ^ 1 ≤ 2 ^ n := Nat.pow_le_pow_right (by omega) (by omega)
        have h3 : ((2 ^ 0 - 1 : Nat) : Int) = 0 := rfl
        omega
      have := index_new R ix n 1 0 base (Dix n im) vr rows w (by omega) (cell_of h.blk 1 _ (relC1 _ _ _ _ _ _)) (cell_of h.blk 5 _ (relC5 _ _ _ _ _ _)) h.ixm (by omega) hh h.rws (fun a ha => (h.rok a ha).1) hrl
      rw [e0] at this
      refine this.mono ?_
      rintro e w' ⟨im', DM', vf', rfl, _, hI, _, hG⟩
      exact ⟨im', _, DM', vf', rfl, ⟨hI.own, hI.at', fun a ha => own_lower (hI.rows a ha) hb, hI.apart⟩, hG, fun g hv => .inr (own_old (hI.rows zr8 zr8_row) hv).1⟩
end Go.Proofs.YtdfbjnachakkhaaGreatDoor

namespace Go.Proofs.YtdfbjnachakkhaaGreatDoor
open Go.ChangeShapes Go.WideShapes Go.ChangeAt Go.RowKit Go.Hands Go.WideMaps Go.Maps
set_option linter.unusedVariables false
set_option maxRecDepth 100000
attribute [local go_sem] Oper.semAt_some
set_option maxHeartbeats 4000000 in
theorem rows_hands (N base R ix im n gw b : Nat) (rows : List (List Nat)) (old : Nat) (vr vu : Value) (w0 w : World) (h : RelX base R ix im n rows old rows.length w0 vr vu) (hn : n ≤ 8) (hrl : rows.length ≤ 1000000) (hgw : w0.heap.size ≤ gw) (hbw : base ≤ w0.heap.size) (hw0 : FrT (Zc0 gw) w0 w) (hC : RowsC b R rows.length w) (hb : b ≠ gw ∧ b + 1 ≠ gw ∧ b + 1 + 1 ≠ gw ∧ b + 1 + 1 + 1 ≠ gw) (hgl : gw < w.heap.size) :
    HandsZ N Tryz.prog 201 #[.pointer (some ⟨b, 0, none⟩), .pointer (some ⟨b + 1, 0, none⟩), .pointer (some ⟨b + 1 + 1, 0, none⟩), .pointer (some ⟨b + 1 + 1 + 1, 0, none⟩)] (fun x : List Nat => #[rowV x]) (fun _ _ => True) (fun _ => False) (fun k _ => k = ix) (Zc0 gw) rows w := by
  intro l J W hW hJ hY h0
  have HRX := hide (h.out (hw0.trans hW) hgw)
  have HH0 := hide (And.intro h (hw0.trans hW))
  have hck : ∀ (k : Nat) (cur : Array Value) (t : TypeId), w.heap[k]? = some (.cells cur t (0, 0)) → k ≠ gw → t ≠ 4 → t ≠ 28 → t ≠ 22 → W.heap[k]? = some (.cells cur t (0, 0)) := by
    intro k cur t hk hne n1 n2 n3
    refine hW.block k _ hk ?_
    rintro (e | e)
    · exact hne e.1
    · rcases isOut_cells e with e | e | e
      · exact n1 e
      · exact n2 e
      · exact n3 e
  have q1 := hck _ _ _ hC.c1 hb.1 (by decide) (by decide) (by decide)
  have q2 := hck _ _ _ hC.c2 hb.2.1 (by decide) (by decide) (by decide)
  have q3 := hck _ _ _ hC.c3 hb.2.2.1 (by decide) (by decide) (by decide)
  have q4 := hck _ _ _ hC.c4 hb.2.2.2 (by decide) (by decide) (by decide)
  have HJ := hide hJ
  have HY := hide hY
  have H0 := hide h0
  have hgW : gw < W.heap.size := Nat.lt_of_lt_of_le hgl hW.size
  have hbW : base ≤ W.heap.size := Nat.le_trans hbw (Nat.le_trans hw0.size hW.size)
  have HB1 := hide q1
  obtain ⟨m, HM⟩ : ∃ m, Hid (m = rows.length) := ⟨_, rfl⟩
  rw [← HM.out] at q4 hrl
  have y0 : W.cell? ⟨b, 0, none⟩ = some (.pointer (some ⟨R, 0, none⟩)) := cell_of q1 0 _ rfl
  have y1 : W.cell? ⟨b + 1, 0, none⟩ = some (.int .i64 0) := cell_of q2 0 _ rfl
  have y2 : W.cell? ⟨b + 1 + 1, 0, none⟩ = some (.int .i64 0) := cell_of q3 0 _ rfl
  have y3 : W.cell? ⟨b + 1 + 1, 1, none⟩ = some (.int .i64 0) := cell_of q3 1 _ rfl
  have y4 : W.cell? ⟨b + 1 + 1, 2, none⟩ = some (.int .i64 0) := cell_of q3 2 _ rfl
  have y5 : W.cell? ⟨b + 1 + 1, 3, none⟩ = some (.int .i64 0) := cell_of q3 3 _ rfl
  have y6 : W.cell? ⟨b + 1 + 1, 4, none⟩ = some (.int .i64 0) := cell_of q3 4 _ rfl
  have y7 : W.cell? ⟨b + 1 + 1, 5, none⟩ = some (.int .i64 0) := cell_of q3 5 _ rfl
  have y8 : W.cell? ⟨b + 1 + 1, 6, none⟩ = some (.int .i64 0) := cell_of q3 6 _ rfl
  have y9 : W.cell? ⟨b + 1 + 1, 7, none⟩ = some (.int .i64 0) := cell_of q3 7 _ rfl
  have y10 : W.cell? ⟨b + 1 + 1 + 1, 0, none⟩ = some (.int .i64 0) := cell_of q4 0 _ rfl
  have y11 : W.cell? ⟨b + 1 + 1 + 1, 1, none⟩ = some (.int .i64 (m : Nat)) := cell_of q4 1 _ rfl
  have hixW : ∃ es ck, W.heap[ix]? = some (.map es ck) := by
    rcases HRX.out with ⟨_, _, _, _, _, h6, _⟩ | ⟨DM, vf, h⟩
    · obtain ⟨es, ck, hq, _⟩ := h6; exact ⟨es, ck, hq⟩
    · obtain ⟨es, ck, hq, _⟩ := h.ixm; exact ⟨es, ck, hq⟩
  obtain ⟨ies, ick, hixe⟩ := hixW
  have hnx : ∀ (k : Nat) (cur : Array Value) (t : TypeId), W.heap[k]? = some (.cells cur t (0, 0)) → ¬ k = ix := by
    rintro k cur t hk rfl
    rw [hixe] at hk; cases hk
  have hn1 := hnx _ _ _ q1
  have hn2 := hnx _ _ _ q2
  have hn3 := hnx _ _ _ q3
  have hn4 := hnx _ _ _ q4
  have HIX : Hid (∀ W1 : World, (∃ k, W1 = W.drewN k) → Calls Tryz.prog 172 #[.pointer (some ⟨R, 0, none⟩), .int .i64 0] W1 fun e w' => ∃ im' na nc, e = .returned (.map (some im')) ∧ Hid (w'.ownsRow base 3 1 (.slice na m nc) m (upV m)) ∧ Hid (W.grownBy w' (some ix)) ∧ Hid (∀ g, (Value.slice na m nc).ownBlock = some g → g ≠ gw) ∧ (Instr.lookup 246 (.map (some im')) (.agg #[.int .i64 0, .int .i64 0, .int .i64 0, .int .i64 0, .int .i64 0, .int .i64 0, .int .i64 0, .int .i64 0]) false).run Tryz.prog w' = .ok (.slice na m nc) w' ∧ w'.cell? ⟨b, 0, none⟩ = some (.pointer (some ⟨R, 0, none⟩)) ∧ w'.cell? ⟨b + 1, 0, none⟩ = some (.int .i64 0) ∧ w'.cell? ⟨b + 1 + 1, 0, none⟩ = some (.int .i64 0) ∧ w'.cell? ⟨b + 1 + 1, 1, none⟩ = some (.int .i64 0) ∧ w'.cell? ⟨b + 1 + 1, 2, none⟩ = some (.int .i64 0) ∧ w'.cell? ⟨b + 1 + 1, 3, none⟩ = some (.int .i64 0) ∧ w'.cell? ⟨b + 1 + 1, 4, none⟩ = some (.int .i64 0) ∧ w'.cell? ⟨b + 1 + 1, 5, none⟩ = some (.int .i64 0) ∧ w'.cell? ⟨b + 1 + 1, 6, none⟩ = some (.int .i64 0) ∧ w'.cell? ⟨b + 1 + 1, 7, none⟩ = some (.int .i64 0) ∧ w'.cell? ⟨b + 1 + 1 + 1, 0, none⟩ = some (.int .i64 0) ∧ w'.cell? ⟨b + 1 + 1 + 1, 1, none⟩ = some (.int .i64 (m : Nat))) := by
    rintro W1 ⟨k, rfl⟩
    have hd := fr_draws W k none
    refine (index0_y base R ix im n gw rows old rows.length w0 (W.drewN k) vr vu HH0.out.1 (HH0.out.2.trans (FrT.none hd)) hgw hn (by rw [← HM.out]; exact hrl) (Nat.le_trans hbW hd.size)).mono ?_
    rintro e w' ⟨im', kk, DM, vf, rfl, hI, hG, hgb⟩
    have hgg : W.grownBy w' (some ix) := fr_trans (fr_weak hd _) hG (fun q hq => Or.inl rfl)
    have hf := FrS.of (S := fun j => j = ix) hgg (fun q e => .inl (Option.some.inj e).symm)
    have ho := hI.rows zr8 zr8_row
    rw [posK0 rows HRX.out.rok rows.length (Nat.le_refl _), List.length_range, numV_range, ← HM.out] at ho
    obtain ⟨na, nc, hne⟩ := own_form ho
    have hl := hI.look zr8 zr8_row
    rw [hne] at hl ho hgb
    exact ⟨im', na, nc, rfl, ho, hgg, fun g hv => by
      rcases hgb g hv with h | h
      · omega
      · have := hd.size; omega, hl, hf.cell y0 hn1, hf.cell y1 hn2, hf.cell y2 hn3, hf.cell y3 hn3, hf.cell y4 hn3, hf.cell y5 hn3, hf.cell y6 hn3, hf.cell y7 hn3, hf.cell y8 hn3, hf.cell y9 hn3, hf.cell y10 hn4, hf.cell y11 hn4⟩
  clear hJ hY h0 hC h hw0 hW hck q1 q2 q3 q4
  refine callsIn_of_wp Tryz.func201 rfl trivial ?_ rfl
  simp only [Tryz.ntmps201, List.size_toArray, List.length_cons, List.length_nil, Nat.reduceAdd, Nat.reduceSub, Array.replicate_succ, Array.replicate_zero, List.push_toArray, List.append_toArray, List.nil_append, List.cons_append]
  gi_wp2_with fail
  refine wpIn_wide.2 ?_
  go_region_held3 (fun w' => w'.cell? ⟨b, 0, none⟩ = some (.pointer (some ⟨R, 0, none⟩)) ∧ w'.cell? ⟨b + 1, 0, none⟩ = some (.int .i64 0) ∧ w'.cell? ⟨b + 1 + 1, 0, none⟩ = some (.int .i64 0) ∧ w'.cell? ⟨b + 1 + 1, 1, none⟩ = some (.int .i64 0) ∧ w'.cell? ⟨b + 1 + 1, 2, none⟩ = some (.int .i64 0) ∧ w'.cell? ⟨b + 1 + 1, 3, none⟩ = some (.int .i64 0) ∧ w'.cell? ⟨b + 1 + 1, 4, none⟩ = some (.int .i64 0) ∧ w'.cell? ⟨b + 1 + 1, 5, none⟩ = some (.int .i64 0) ∧ w'.cell? ⟨b + 1 + 1, 6, none⟩ = some (.int .i64 0) ∧ w'.cell? ⟨b + 1 + 1, 7, none⟩ = some (.int .i64 0) ∧ w'.cell? ⟨b + 1 + 1 + 1, 0, none⟩ = some (.int .i64 0) ∧ w'.cell? ⟨b + 1 + 1 + 1, 1, none⟩ = some (.int .i64 (m : Nat))) (go_keep)
    (first
      | (go_at_call 172; refine (HIX.out _ ⟨_, rfl⟩).mono ?_; rintro e w2 ⟨im', na, nc, rfl, HOW, HG2, HNG, hlk, k0, k1, k2, k3, k4, k5, k6, k7, k8, k9, k10, k11⟩)
      | (go_at_call 202; refine (cut_all base m _ w2 HOW.out hrl).mono ?_; rintro e w3 ⟨rfl, hg3⟩; have hf := FrS.none (S := fun _ => False) hg3; have HK3 := hide (And.intro hg3 True.intro); replace k0 := hf.cell k0 (fun h => h); replace k1 := hf.cell k1 (fun h => h); replace k2 := hf.cell k2 (fun h => h); replace k3 := hf.cell k3 (fun h => h); replace k4 := hf.cell k4 (fun h => h); replace k5 := hf.cell k5 (fun h => h); replace k6 := hf.cell k6 (fun h => h); replace k7 := hf.cell k7 (fun h => h); replace k8 := hf.cell k8 (fun h => h); replace k9 := hf.cell k9 (fun h => h); replace k10 := hf.cell k10 (fun h => h); replace k11 := hf.cell k11 (fun h => h)))
  have HF3 : Hid (FrS (fun j => j = ix) W w3) := FrS.of (S := fun j => j = ix) (fr_trans HG2.out (fr_weak HK3.out.1 _) (fun q hq => Or.inl rfl)) (fun q e => .inl (Option.some.inj e).symm)
  have HJ3 : Hid (J 0 w3) := by
    refine HJ.out _ _ _ H0.out ?_
    exact (FrT.grown HG2.out (fun k o e _ => .inl (Option.some.inj e).symm)).trans (FrT.none HK3.out.1)
  have HFW : Hid (FrT (fun k o => Zi (fun _ => False) (fun k _ => k = ix) W.heap.size k o ∨ Zc0 gw k o) W w3) := (FrT.grown HG2.out (fun k o e _ => .inl (.inl (Option.some.inj e).symm))).trans (FrT.none HK3.out.1)
  have HNO : Hid (∀ k, k < m → ∃ g, na = some ⟨g, 0, none⟩ ∧ g ≠ gw ∧ (∃ cur, w3.heap[g]? = some (.cells cur 3 (0, 0))) ∧ w3.cell? ⟨g, k, none⟩ = some (.int .i64 (k : Nat))) := by
    intro k hk
    have ho := HOW.out.kept HK3.out.1 (by cases (Value.slice na m nc).ownBlock <;> simp)
    obtain ⟨g, hg⟩ : ∃ g, na = some ⟨g, 0, none⟩ := by
      rcases ho.2 with ⟨e, e0⟩ | ⟨g, cap, cur, e, _⟩
      · omega
      · injection e with e1 e2 e3; exact ⟨g, e1⟩
    have hob : (Value.slice na m nc).ownBlock = some g := by rw [hg]; rfl
    obtain ⟨cur, hcu⟩ := own_type ho hob
    exact ⟨g, hg, HNG.out g hob, ⟨cur, hcu⟩, own_cell ho hob k _ (by simp [upV, hk])⟩
  have HVR : Hid (∀ k a, rows[k]? = some a → ∃ g c, vr = .slice (some ⟨g, 0, none⟩) m c ∧ g ≠ gw ∧ (∃ cur, w3.heap[g]? = some (.cells cur 193 (0, 0))) ∧ Row8N a ∧ ∀ t, t < 8 → ∀ u, (numV a)[t]? = some u → w3.cell? ⟨g, k * 8 + t, none⟩ = some u) := by
    intro k a hka
    have ho0 := HH0.out.1.rws
    have ho := HRX.out.rws
    have hk : k < rows.length := by
      rw [List.getElem?_eq_some_iff] at hka; exact hka.1
    rcases ho.2 with ⟨e, e0⟩ | ⟨g, cap, cur, e, hbg, hgc, _⟩
    · omega
    · have hob : vr.ownBlock = some g := by rw [e]; rfl
      have hg0 := (own_old ho0 hob).2
      have hnix : ¬ g = ix := hnx _ _ _ hgc
      refine ⟨g, cap, by rw [HM.out]; exact e, by omega, ⟨cur, (HF3.out.block g (lt_of_heap hgc) hnix).trans hgc⟩, HRX.out.rok a (List.mem_of_getElem? hka), fun t ht u hu => ?_⟩
      have e8 := flatR_at rows HRX.out.rok k a hka t ht
      exact HF3.out.cell (own_cell ho hob (k * 8 + t) u (by rw [e8]; exact hu)) hnix
  have HR1 : Hid (R ≠ gw ∧ (∃ cur, w3.heap[R]? = some (.cells cur 200 (0, 0))) ∧ w3.cell? ⟨R, 1, none⟩ = some vr) := by
    have hb0 := HH0.out.1.blk
    have hbR := HRX.out.blk
    have hnR := hnx _ _ _ hbR
    have h3 := (HF3.out.block R (lt_of_heap hbR) hnR).trans hbR
    exact ⟨by have := lt_of_heap hb0; omega, ⟨_, h3⟩, cell_of h3 1 _ (relC1 _ _ _ _ _ _)⟩
  have HB3 : Hid (b ≠ gw ∧ (∃ cur, w3.heap[b]? = some (.cells cur 137 (0, 0))) ∧ w3.cell? ⟨b, 0, none⟩ = some (.pointer (some ⟨R, 0, none⟩))) :=
    ⟨hb.1, ⟨_, (HF3.out.block b (lt_of_heap HB1.out) hn1).trans HB1.out⟩, k0⟩
  have HZC : Hid (∀ (wr : World) (g j : Nat) (v : Value) (t : TypeId), FrT (Zc0 gw) w3 wr → g ≠ gw → (∃ cur, w3.heap[g]? = some (.cells cur t (0, 0))) → t ≠ 4 → t ≠ 28 → t ≠ 22 → w3.cell? ⟨g, j, none⟩ = some v → wr.cell? ⟨g, j, none⟩ = some v) := by
    intro wr g j v t hf hg ⟨cur, hcu⟩ n1 n2 n3 hc
    refine hf.cell hc (fun o ho hz => ?_)
    rw [hcu] at ho; cases ho
    rcases hz with e | e
    · exact hg e.1
    · rcases isOut_cells e with e | e | e
      · exact n1 e
      · exact n2 e
      · exact n3 e
  clear HIX HOW HNG HG2 HK3 hlk k0 k1 k2 k3 k4 k5 k6 k7 k8 k9 k10 k11 y0 y1 y2 y3 y4 y5 y6 y7 y8 y9 y10 y11 hnx hn1 hn2 hn3 hn4 HB1 hixe HRX HH0 H0
  gi_wp2
  gi_loopw [16] (fun iv wr => ∃ k : Nat, k ≤ m ∧ iv = .int .i64 k ∧ Hid (J k wr) ∧ Hid (FrT (Zc0 gw) w3 wr)) (fun iv _ => m - (intOf iv).toNat)
  case atStart => exact ⟨0, by omega, rfl, HJ3, FrT.refl _ _⟩
  case round =>
    obtain ⟨k, hk1, rfl, HJK, HRW⟩ := hrel
    by_cases hlt : k < m
    · have hlt' : k < rows.length := by rw [← HM.out]; exact hlt
      obtain ⟨a, HA⟩ : ∃ a, Hid (rows[k]? = some a) := ⟨_, List.getElem?_eq_getElem hlt'⟩
      obtain ⟨gn, hna, hgn, htn, hcn⟩ := HNO.out k hlt
      obtain ⟨gr, vc, hvr, hgr, htr, har, hcr⟩ := HVR.out k a HA.out
      have z1 := HZC.out wr gn k _ _ HRW.out hgn htn (by decide) (by decide) (by decide) hcn
      have z2 := HZC.out wr R 1 _ _ HRW.out HR1.out.1 HR1.out.2.1 (by decide) (by decide) (by decide) HR1.out.2.2
      have z3 := HZC.out wr b 0 _ _ HRW.out HB3.out.1 HB3.out.2.1 (by decide) (by decide) (by decide) HB3.out.2.2
      have HCL : Hid (∀ t, t < 8 → ∀ u, (numV a)[t]? = some u → wr.cell? ⟨gr, k * 8 + t, none⟩ = some u) := fun t ht u hu => HZC.out wr gr _ _ _ HRW.out hgr htr (by decide) (by decide) (by decide) (hcr t ht u hu)
      obtain ⟨fn, tmps, assign, body, hy, hR⟩ := HY.out k a wr HA.out HJK.out trivial
      have HRR := hide hR
      rw [hvr] at z2
      clear hR hcr
      match a, har.1 with
      | [a0, a1, a2, a3, a4, a5, a6, a7], _ =>
        have k0 : wr.cell? ⟨gr, k * 8, none⟩ = some (.int .i64 (a0 : Nat)) := HCL.out 0 (by omega) _ rfl
        have k1 := HCL.out 1 (by omega) _ rfl
        have k2 := HCL.out 2 (by omega) _ rfl
        have k3 := HCL.out 3 (by omega) _ rfl
        have k4 := HCL.out 4 (by omega) _ rfl
        have k5 := HCL.out 5 (by omega) _ rfl
        have k6 := HCL.out 6 (by omega) _ rfl
        have k7 := HCL.out 7 (by omega) _ rfl
        rw [hna]
        dsimp only [rowV, List.map] at hy
        gi_wp2
        refine ⟨fun h => (by cases h), HRR.out.mono ?_⟩
        rintro e W3 ⟨rfl, hJ3, hr3⟩
        have HJ3 : Hid (J (k + 1) W3) := hJ3
        have HR3 : Hid (FrT (Zc0 gw) w3 W3) := HRW.out.trans hr3
        clear hJ3 hr3
        gi_wp2
        go_roundw
        case rel => exact ⟨k + 1, by omega, by go_num, HJ3, HR3⟩
        case measure => simp [intOf]; omega
    · have hk0 : k = m := by omega
      subst hk0
      gi_wp2
      go_end0
      exact ⟨⟨_, rfl⟩, by rw [← HM.out]; exact HJK.out, HFW.out.trans (HRW.out.mono (fun _ _ _ h => .inr h))⟩
end Go.Proofs.YtdfbjnachakkhaaGreatDoor

namespace Go.Proofs.YtdfbjnachakkhaaGreatDoor
open Go.ChangeShapes Go.WideShapes Go.ChangeAt Go.RowKit Go.Hands Go.WideMaps Go.Maps
set_option linter.unusedVariables false
set_option maxRecDepth 100000
/-- a search of a plan -/
def searchC (P : Nat) (wv : Value) (ev : Bool) (mk : Value) : Array Value := #[.pointer (some ⟨P, 0, none⟩), .func (.func 35) #[] #[], wv, .bool ev, mk]
theorem hold_way1 {F P : Nat → World → Prop} {G : Prop} (h1 : (∀ g w, F g w → P g w) → G) (h2 : ∀ g w, F g w → P g w) : G := h1 h2
set_option maxHeartbeats 2000000 in
theorem srows_any (B Bw Sx P R n old now ix : Nat) (wv vt mk vr vu : Value) (ev : Bool) (w : World) (hs : w.heap[Sx]? = some (.cells (searchC P wv ev mk) 159 (0, 0))) (hw : w.ownsRow Bw 3 1 wv n (noneV n)) (ht : w.ownsRow B 204 2 vt n (tvV n)) (hr : w.heap[R]? = some (.cells (relC n vr vu old now ix) 200 (0, 0))) (hn : n ≤ 8) :
    Calls Tryz.prog 151 #[.pointer (some ⟨Sx, 0, none⟩), .agg #[.int .i64 0, .int .i64 0, .pointer (some ⟨R, 0, none⟩), vt]] w fun e w' => ∃ b, e = .returned (.func (.func 201) #[] #[.pointer (some ⟨b, 0, none⟩), .pointer (some ⟨b + 1, 0, none⟩), .pointer (some ⟨b + 1 + 1, 0, none⟩), .pointer (some ⟨b + 1 + 1 + 1, 0, none⟩)]) ∧ RowsC b R now w' ∧ w.heap.size ≤ b ∧ w.grownBy w' none := by
  obtain ⟨va, vc, hve⟩ := own_form ht
  obtain ⟨wa, wc, hwe⟩ := own_form hw
  have HS := hide hs
  have HW := hide hw
  have HT := hide ht
  have HR := hide hr
  rw [hve]
  obtain ⟨wA, HWA⟩ : ∃ wA, Hid (wA = w.alloc (.cells #[.int .i64 0, .int .i64 0, .pointer (some ⟨R, 0, none⟩), .slice va n vc] 202)) := ⟨_, rfl⟩
  have hwA := HWA.out.symm
  have HGA : Hid (w.grownBy wA none) := by rw [HWA.out]; exact fr_alloc _ _ _
  have p0 : wA.heap[w.heap.size]? = some (.cells #[.int .i64 0, .int .i64 0, .pointer (some ⟨R, 0, none⟩), .slice va n vc] 202 (0, 0)) := by rw [HWA.out]; exact heap_alloc_new _ _
  have HP0 := hide p0
  have hsA : w.heap.size < wA.heap.size := by rw [HWA.out]; simp
  have s2 : wA.cell? ⟨Sx, 2, none⟩ = some (.slice wa n wc) := by rw [← hwe]; exact (FrS.none (S := fun _ => False) HGA.out).cell (cell_of hs 2 _ rfl) (fun h => h)
  have c3 : wA.cell? ⟨w.heap.size, 3, none⟩ = some (.slice va n vc) := cell_of p0 3 _ rfl
  obtain ⟨gA, hgA⟩ : ∃ gA, wA.heap.size = gA := ⟨_, rfl⟩
  have HBD : Hid (∀ W, wA.grownBy W none → Calls Tryz.prog 185 #[.slice wa n wc, .slice va n vc] W fun e w' => e = .returned (.tuple #[.int .i64 0, .agg #[.int .i64 0, .int .i64 0, .int .i64 0, .int .i64 0, .int .i64 0, .int .i64 0, .int .i64 0, .int .i64 0]]) ∧ Hid (W.grownBy w' none) ∧ w'.cell? ⟨Sx, 2, none⟩ = some (.slice wa n wc) ∧ w'.cell? ⟨w.heap.size, 3, none⟩ = some (.slice va n vc)) := by
    intro W hg
    have hgg := fr_both HGA.out hg
    rw [← hve, ← hwe]
    refine (bound_none B Bw n wv vt W (HW.out.kept hgg (by cases wv.ownBlock <;> simp)) (HT.out.kept hgg (by cases vt.ownBlock <;> simp)) hn).mono ?_
    rintro e w' ⟨rfl, hG⟩
    have hf := FrS.none (S := fun _ => False) (fr_both hg hG)
    rw [hve, hwe]
    exact ⟨rfl, hG, hf.cell s2 (fun h => h), hf.cell c3 (fun h => h)⟩
  have HB1 : Hid (∀ W, (∃ k, W = wA.drewN k) → Calls Tryz.prog 185 #[.slice wa n wc, .slice va n vc] W fun e w' => e = .returned (.tuple #[.int .i64 0, .agg #[.int .i64 0, .int .i64 0, .int .i64 0, .int .i64 0, .int .i64 0, .int .i64 0, .int .i64 0, .int .i64 0]]) ∧ Hid (wA.grownBy w' none) ∧ w'.cell? ⟨Sx, 2, none⟩ = some (.slice wa n wc) ∧ w'.cell? ⟨w.heap.size, 3, none⟩ = some (.slice va n vc)) := by
    rintro W ⟨k, rfl⟩
    refine (HBD.out _ (fr_draws wA k none)).mono ?_
    rintro e w' ⟨rfl, h1, h2⟩
    exact ⟨rfl, fr_both (fr_draws wA k none) h1.out, h2⟩
  have HB2 : Hid (∀ W, (∃ k, W = (wA.drewN k).alloc (.cells #[.int .i64 0, .int .i64 0, .int .i64 0, .int .i64 0, .int .i64 0, .int .i64 0, .int .i64 0, .int .i64 0] 193)) → Calls Tryz.prog 185 #[.slice wa n wc, .slice va n vc] W fun e w' => e = .returned (.tuple #[.int .i64 0, .agg #[.int .i64 0, .int .i64 0, .int .i64 0, .int .i64 0, .int .i64 0, .int .i64 0, .int .i64 0, .int .i64 0]]) ∧ Hid (wA.grownBy w' none ∧ w'.heap[gA]? = some (.cells #[.int .i64 0, .int .i64 0, .int .i64 0, .int .i64 0, .int .i64 0, .int .i64 0, .int .i64 0, .int .i64 0] 193 (0, 0))) ∧ w'.cell? ⟨Sx, 2, none⟩ = some (.slice wa n wc) ∧ w'.cell? ⟨w.heap.size, 3, none⟩ = some (.slice va n vc)) := by
    rintro W ⟨k, rfl⟩
    refine (HBD.out _ (fr_both (fr_draws wA k none) (fr_alloc _ _ none))).mono ?_
    rintro e w' ⟨rfl, h1, h2⟩
    refine ⟨rfl, ⟨fr_both (fr_both (fr_draws wA k none) (fr_alloc _ _ none)) h1.out, ?_⟩, h2⟩
    have h3 := heap_alloc_new (wA.drewN k) (.cells #[.int .i64 0, .int .i64 0, .int .i64 0, .int .i64 0, .int .i64 0, .int .i64 0, .int .i64 0, .int .i64 0] 193)
    have h4 : (wA.drewN k).heap.size = gA := hgA
    rw [h4] at h3
    exact (h1.out.block gA (lt_of_heap h3) (by simp)).trans h3
  have HEV : Hid (∀ W, w.grownBy W none → Calls Tryz.prog 35 #[.int .i64 0, .pointer (some ⟨R, 0, none⟩)] W fun e w' => e = .returned (.agg #[.int .i64 0, .int .i64 (now : Nat)]) ∧ W.grownBy w' none) := by
    intro W hg
    exact everywhere_any R n old now ix 0 vr vu W ((hg.block R (Array.getElem?_eq_some_iff.1 HR.out).1 (by simp)).trans HR.out)
  clear hs hw ht hr p0
  go_enter Tryz.func151, Tryz.ntmps151
  go_wp2_with fail
  apply hold_way1 (F := fun gx w2 => wA.grownBy w2 none ∧ w2.heap[gx]? = some (.cells #[.int .i64 0, .int .i64 0, .int .i64 0, .int .i64 0, .int .i64 0, .int .i64 0, .int .i64 0, .int .i64 0] 193 (0, 0)))
  · intro HK
    go_region_held3 (fun w' => w'.cell? ⟨Sx, 2, none⟩ = some (.slice wa n wc) ∧ w'.cell? ⟨w.heap.size, 3, none⟩ = some (.slice va n vc)) (go_keep)
      (first
        | (go_at_call 185; refine (HB1.out _ ⟨_, rfl⟩).mono ?_; rintro e w1 ⟨rfl, HG1, k0, k1⟩; obtain ⟨gB, hgB⟩ : ∃ gB, w1.heap.size = gB := ⟨_, rfl⟩; obtain ⟨wz, HWZ⟩ : ∃ wz, Hid (wz = w1.alloc (.cells #[.int .i64 0, .int .i64 0, .int .i64 0, .int .i64 0, .int .i64 0, .int .i64 0, .int .i64 0, .int .i64 0] 193)) := ⟨_, rfl⟩; have hwz := HWZ.out.symm; have hZ : wz.heap[gB]? = some (.cells #[.int .i64 0, .int .i64 0, .int .i64 0, .int .i64 0, .int .i64 0, .int .i64 0, .int .i64 0, .int .i64 0] 193 (0, 0)) := (by rw [HWZ.out, ← hgB]; exact heap_alloc_new _ _); have HF : Hid (wA.grownBy wz none ∧ wz.heap[gB]? = some (.cells #[.int .i64 0, .int .i64 0, .int .i64 0, .int .i64 0, .int .i64 0, .int .i64 0, .int .i64 0, .int .i64 0] 193 (0, 0))) := (⟨by rw [HWZ.out]; exact fr_both HG1.out (fr_alloc _ _ none), hZ⟩); have hfz := FrS.none (S := fun _ => False) (show w1.grownBy wz none by rw [HWZ.out]; exact fr_alloc _ _ none); have m0 := hfz.cell k0 (fun h => h); have m1 := hfz.cell k1 (fun h => h); have q0 : wz.cell? ⟨gB, 0, none⟩ = some (.int .i64 0) := cell_of hZ 0 _ rfl; have t0 := thaw_of hZ 0; have z0 := setCell_same (j := 0) (v := .int .i64 0) hZ rfl; have q1 : wz.cell? ⟨gB, 1, none⟩ = some (.int .i64 0) := cell_of hZ 1 _ rfl; have t1 := thaw_of hZ 1; have z1 := setCell_same (j := 1) (v := .int .i64 0) hZ rfl; have q2 : wz.cell? ⟨gB, 2, none⟩ = some (.int .i64 0) := cell_of hZ 2 _ rfl; have t2 := thaw_of hZ 2; have z2 := setCell_same (j := 2) (v := .int .i64 0) hZ rfl; have q3 : wz.cell? ⟨gB, 3, none⟩ = some (.int .i64 0) := cell_of hZ 3 _ rfl; have t3 := thaw_of hZ 3; have z3 := setCell_same (j := 3) (v := .int .i64 0) hZ rfl; have q4 : wz.cell? ⟨gB, 4, none⟩ = some (.int .i64 0) := cell_of hZ 4 _ rfl; have t4 := thaw_of hZ 4; have z4 := setCell_same (j := 4) (v := .int .i64 0) hZ rfl; have q5 : wz.cell? ⟨gB, 5, none⟩ = some (.int .i64 0) := cell_of hZ 5 _ rfl; have t5 := thaw_of hZ 5; have z5 := setCell_same (j := 5) (v := .int .i64 0) hZ rfl; have q6 : wz.cell? ⟨gB, 6, none⟩ = some (.int .i64 0) := cell_of hZ 6 _ rfl; have t6 := thaw_of hZ 6; have z6 := setCell_same (j := 6) (v := .int .i64 0) hZ rfl; have q7 : wz.cell? ⟨gB, 7, none⟩ = some (.int .i64 0) := cell_of hZ 7 _ rfl; have t7 := thaw_of hZ 7; have z7 := setCell_same (j := 7) (v := .int .i64 0) hZ rfl; clear hZ)
        | (go_at_call 185; refine (HB2.out _ ⟨_, rfl⟩).mono ?_; rintro e w1 ⟨rfl, HF, k0, k1⟩; have hZ := HF.out.2; have q0 : w1.cell? ⟨gA, 0, none⟩ = some (.int .i64 0) := cell_of hZ 0 _ rfl; have t0 := thaw_of hZ 0; have z0 := setCell_same (j := 0) (v := .int .i64 0) hZ rfl; have q1 : w1.cell? ⟨gA, 1, none⟩ = some (.int .i64 0) := cell_of hZ 1 _ rfl; have t1 := thaw_of hZ 1; have z1 := setCell_same (j := 1) (v := .int .i64 0) hZ rfl; have q2 : w1.cell? ⟨gA, 2, none⟩ = some (.int .i64 0) := cell_of hZ 2 _ rfl; have t2 := thaw_of hZ 2; have z2 := setCell_same (j := 2) (v := .int .i64 0) hZ rfl; have q3 : w1.cell? ⟨gA, 3, none⟩ = some (.int .i64 0) := cell_of hZ 3 _ rfl; have t3 := thaw_of hZ 3; have z3 := setCell_same (j := 3) (v := .int .i64 0) hZ rfl; have q4 : w1.cell? ⟨gA, 4, none⟩ = some (.int .i64 0) := cell_of hZ 4 _ rfl; have t4 := thaw_of hZ 4; have z4 := setCell_same (j := 4) (v := .int .i64 0) hZ rfl; have q5 : w1.cell? ⟨gA, 5, none⟩ = some (.int .i64 0) := cell_of hZ 5 _ rfl; have t5 := thaw_of hZ 5; have z5 := setCell_same (j := 5) (v := .int .i64 0) hZ rfl; have q6 : w1.cell? ⟨gA, 6, none⟩ = some (.int .i64 0) := cell_of hZ 6 _ rfl; have t6 := thaw_of hZ 6; have z6 := setCell_same (j := 6) (v := .int .i64 0) hZ rfl; have q7 : w1.cell? ⟨gA, 7, none⟩ = some (.int .i64 0) := cell_of hZ 7 _ rfl; have t7 := thaw_of hZ 7; have z7 := setCell_same (j := 7) (v := .int .i64 0) hZ rfl; clear hZ))
    · exact HK gB wz HF.out
    · exact HK gA w1 HF.out
  · rintro gx w2 ⟨hg2, hz2⟩
    have hf2 := FrS.none (S := fun _ => False) hg2
    have hfw := FrS.none (S := fun _ => False) (fr_both HGA.out hg2)
    have HG2 : Hid (w.grownBy w2 none) := fr_both HGA.out hg2
    have k0 : w2.cell? ⟨w.heap.size, 0, none⟩ = some (.int .i64 0) := hf2.cell (cell_of HP0.out 0 _ rfl) (fun h => h)
    have k1 : w2.cell? ⟨w.heap.size, 1, none⟩ = some (.int .i64 0) := hf2.cell (cell_of HP0.out 1 _ rfl) (fun h => h)
    have k2 : w2.cell? ⟨w.heap.size, 2, none⟩ = some (.pointer (some ⟨R, 0, none⟩)) := hf2.cell (cell_of HP0.out 2 _ rfl) (fun h => h)
    have l1 : w2.cell? ⟨Sx, 1, none⟩ = some (.func (.func 35) #[] #[]) := hfw.cell (cell_of HS.out 1 _ rfl) (fun h => h)
    have q0 : w2.cell? ⟨gx, 0, none⟩ = some (.int .i64 0) := cell_of hz2 0 _ rfl
    have q1 : w2.cell? ⟨gx, 1, none⟩ = some (.int .i64 0) := cell_of hz2 1 _ rfl
    have q2 : w2.cell? ⟨gx, 2, none⟩ = some (.int .i64 0) := cell_of hz2 2 _ rfl
    have q3 : w2.cell? ⟨gx, 3, none⟩ = some (.int .i64 0) := cell_of hz2 3 _ rfl
    have q4 : w2.cell? ⟨gx, 4, none⟩ = some (.int .i64 0) := cell_of hz2 4 _ rfl
    have q5 : w2.cell? ⟨gx, 5, none⟩ = some (.int .i64 0) := cell_of hz2 5 _ rfl
    have q6 : w2.cell? ⟨gx, 6, none⟩ = some (.int .i64 0) := cell_of hz2 6 _ rfl
    have q7 : w2.cell? ⟨gx, 7, none⟩ = some (.int .i64 0) := cell_of hz2 7 _ rfl
    clear HB1 HB2 HBD hf2 hfw s2 c3 hz2
    go_wp2_with fail
    have HE2 : Hid (∀ W, (∃ k, W = w2.drewN k) → Calls Tryz.prog 35 #[.int .i64 0, .pointer (some ⟨R, 0, none⟩)] W fun e w' => e = .returned (.agg #[.int .i64 0, .int .i64 (now : Nat)]) ∧ Hid (w2.grownBy w' none) ∧ w'.cell? ⟨w.heap.size, 1, none⟩ = some (.int .i64 0) ∧ w'.cell? ⟨w.heap.size, 2, none⟩ = some (.pointer (some ⟨R, 0, none⟩)) ∧ w'.cell? ⟨Sx, 1, none⟩ = some (.func (.func 35) #[] #[]) ∧ w'.cell? ⟨gx, 0, none⟩ = some (.int .i64 0) ∧ w'.cell? ⟨gx, 1, none⟩ = some (.int .i64 0) ∧ w'.cell? ⟨gx, 2, none⟩ = some (.int .i64 0) ∧ w'.cell? ⟨gx, 3, none⟩ = some (.int .i64 0) ∧ w'.cell? ⟨gx, 4, none⟩ = some (.int .i64 0) ∧ w'.cell? ⟨gx, 5, none⟩ = some (.int .i64 0) ∧ w'.cell? ⟨gx, 6, none⟩ = some (.int .i64 0) ∧ w'.cell? ⟨gx, 7, none⟩ = some (.int .i64 0)) := by
      rintro W ⟨k, rfl⟩
      refine (HEV.out _ (fr_both HG2.out (fr_draws w2 k none))).mono ?_
      rintro e w' ⟨rfl, hg⟩
      have hgg := fr_both (fr_draws w2 k none) hg
      have hf := FrS.none (S := fun _ => False) hgg
      exact ⟨rfl, hgg, hf.cell k1 (fun h => h), hf.cell k2 (fun h => h), hf.cell l1 (fun h => h), hf.cell q0 (fun h => h), hf.cell q1 (fun h => h), hf.cell q2 (fun h => h), hf.cell q3 (fun h => h), hf.cell q4 (fun h => h), hf.cell q5 (fun h => h), hf.cell q6 (fun h => h), hf.cell q7 (fun h => h)⟩
    have HRW : Hid (∀ W, Hid (w2.grownBy W none) → Calls Tryz.prog 186 #[.pointer (some ⟨R, 0, none⟩), .int .i64 0, .agg #[.int .i64 0, .int .i64 0, .int .i64 0, .int .i64 0, .int .i64 0, .int .i64 0, .int .i64 0, .int .i64 0], .agg #[.int .i64 0, .int .i64 (now : Nat)]] W fun e w' => ∃ b, e = .returned (.func (.func 201) #[] #[.pointer (some ⟨b, 0, none⟩), .pointer (some ⟨b + 1, 0, none⟩), .pointer (some ⟨b + 1 + 1, 0, none⟩), .pointer (some ⟨b + 1 + 1 + 1, 0, none⟩)]) ∧ Hid (RowsC b R now w' ∧ w.heap.size ≤ b ∧ w.grownBy w' none) ∧ w'.cell? ⟨w.heap.size, 1, none⟩ = some (.int .i64 0) ∧ w'.cell? ⟨w.heap.size, 2, none⟩ = some (.pointer (some ⟨R, 0, none⟩)) ∧ w'.cell? ⟨Sx, 1, none⟩ = some (.func (.func 35) #[] #[]) ∧ w'.cell? ⟨gx, 0, none⟩ = some (.int .i64 0) ∧ w'.cell? ⟨gx, 1, none⟩ = some (.int .i64 0) ∧ w'.cell? ⟨gx, 2, none⟩ = some (.int .i64 0) ∧ w'.cell? ⟨gx, 3, none⟩ = some (.int .i64 0) ∧ w'.cell? ⟨gx, 4, none⟩ = some (.int .i64 0) ∧ w'.cell? ⟨gx, 5, none⟩ = some (.int .i64 0) ∧ w'.cell? ⟨gx, 6, none⟩ = some (.int .i64 0) ∧ w'.cell? ⟨gx, 7, none⟩ = some (.int .i64 0)) := by
      intro W hgW
      refine (relRows_any R now W).mono ?_
      rintro e w' ⟨rfl, hc, hg⟩
      have hgg := fr_both hgW.out hg
      have hf := FrS.none (S := fun _ => False) hgg
      have h1 := (fr_both HG2.out hgW.out).size
      exact ⟨W.heap.size, rfl, ⟨hc, h1, fr_both HG2.out hgg⟩, hf.cell k1 (fun h => h), hf.cell k2 (fun h => h), hf.cell l1 (fun h => h), hf.cell q0 (fun h => h), hf.cell q1 (fun h => h), hf.cell q2 (fun h => h), hf.cell q3 (fun h => h), hf.cell q4 (fun h => h), hf.cell q5 (fun h => h), hf.cell q6 (fun h => h), hf.cell q7 (fun h => h)⟩
    go_region_held3 (fun w' => w'.cell? ⟨w.heap.size, 1, none⟩ = some (.int .i64 0) ∧ w'.cell? ⟨w.heap.size, 2, none⟩ = some (.pointer (some ⟨R, 0, none⟩)) ∧ w'.cell? ⟨Sx, 1, none⟩ = some (.func (.func 35) #[] #[]) ∧ w'.cell? ⟨gx, 0, none⟩ = some (.int .i64 0) ∧ w'.cell? ⟨gx, 1, none⟩ = some (.int .i64 0) ∧ w'.cell? ⟨gx, 2, none⟩ = some (.int .i64 0) ∧ w'.cell? ⟨gx, 3, none⟩ = some (.int .i64 0) ∧ w'.cell? ⟨gx, 4, none⟩ = some (.int .i64 0) ∧ w'.cell? ⟨gx, 5, none⟩ = some (.int .i64 0) ∧ w'.cell? ⟨gx, 6, none⟩ = some (.int .i64 0) ∧ w'.cell? ⟨gx, 7, none⟩ = some (.int .i64 0)) (go_keep)
      (first
        | (go_at_call 35; refine (HE2.out _ ⟨_, rfl⟩).mono ?_; rintro e w3 ⟨rfl, HG3, e0, e1, e2, e3, e4, e5, e6, e7, e8, e9, e10⟩)
        | (go_at_call 186; refine (HRW.out _ HG3).mono ?_; rintro e w4 ⟨b, rfl, HF4, f0, f1, f2, f3, f4, f5, f6, f7, f8, f9, f10⟩))
    go_wp2
    go_ret
    exact ⟨b, rfl, HF4.out⟩
end Go.Proofs.YtdfbjnachakkhaaGreatDoor
