import Derived.Test.YtdfbjnachakkhaaGreatDoorM22
import Derived.Test.YtdfbjnachakkhaaGreatDoorM06
namespace Go.Proofs.YtdfbjnachakkhaaGreatDoor
open Go.ChangeShapes Go.WideShapes Go.ChangeAt Go.RowKit Go.Hands Go.WideMaps Go.Maps
set_option linter.unusedVariables false
set_option maxRecDepth 100000
attribute [local go_sem] Oper.semAt_some
/-- cells of numbers -/
def isInt (o : Obj) : Prop := ∃ cur, o = .cells cur 3 (0, 0)
structure HoldsC (b Sx R : Nat) (vt : Value) (w : World) : Prop where
  c1 : w.heap[b]? = some (.cells #[.pointer (some ⟨Sx, 0, none⟩)] 149 (0, 0))
  c2 : w.heap[b + 1]? = some (.cells #[.int .i64 0, .int .i64 0, .pointer (some ⟨R, 0, none⟩), vt] 202 (0, 0))
set_option maxHeartbeats 1000000 in
theorem holds_any (Sx R : Nat) (vt : Value) (w : World) :
    Calls Tryz.prog 110 #[.pointer (some ⟨Sx, 0, none⟩), .agg #[.int .i64 0, .int .i64 0, .pointer (some ⟨R, 0, none⟩), vt]] w fun e w' => e = .returned (.func (.func 150) #[] #[.pointer (some ⟨w.heap.size, 0, none⟩), .pointer (some ⟨w.heap.size + 1, 0, none⟩)]) ∧ HoldsC w.heap.size Sx R vt w' ∧ w.grownBy w' none := by
  go_enter Tryz.func110, Tryz.ntmps110
  go_wp2
  go_ret
  exact ⟨rfl, ⟨by rw [Below.heap_alloc _ _ _ (by simp)]; exact heap_alloc_new _ _, by
    have := heap_alloc_new (w.alloc (.cells #[.pointer (some ⟨Sx, 0, none⟩)] 149)) (.cells #[.int .i64 0, .int .i64 0, .pointer (some ⟨R, 0, none⟩), vt] 202)
    rw [World.size_alloc] at this; exact this⟩, fr_both (fr_alloc _ _ _) (fr_alloc _ _ _)⟩
theorem round_wide {m m' l' : Nat} {P : Program} {l : Nat} {f : FuncId} {tmps : Array Value} {assign body : Code} {w : World} {R : Ending → World → Prop}
    (h : RoundIn Fence.wide m P l f tmps assign body w R) : RoundIn (Fence.wide.inRound l') m' P l f tmps assign body w R := ⟨h.1, fun c cs _ => h.2 c cs (fun d h => by cases h)⟩
theorem frs_frt {S : Nat → Prop} {Z : Nat → Obj → Prop} {A C : World} (h : FrS S A C) (hz : ∀ k o, S k → A.heap[k]? = some o → Z k o) : FrT Z A C :=
  ⟨h.os, h.tape, h.output, h.size, fun k o hk hn => (h.block k (lt_of_heap hk) (fun e => hn (hz k o e hk))).trans hk⟩
/-- what the rounds look at -/
structure HoldsB (B Bw yb l b Sx P R n : Nat) (wv vt mk : Value) (ev : Bool) (w : World) : Prop where
  y : w.heap[yb]? = some (.cells #[.func (.yield l) #[] #[]] 112 (0, 0))
  c : HoldsC b Sx R vt w
  s : w.heap[Sx]? = some (.cells (searchC P wv ev mk) 159 (0, 0))
  t : w.ownsRow B 204 2 vt n (tvV n)
set_option maxHeartbeats 4000000 in
theorem holds_hands (N B Bw base R ix im n gw b Sx P : Nat) (rows : List (List Nat)) (old : Nat) (vr vu wv vt mk : Value) (ev : Bool) (w0 w : World) (h : RelX base R ix im n rows old rows.length w0 vr vu) (hn : n ≤ 8) (hrl : rows.length ≤ 1000000) (hgw : w0.heap.size ≤ gw) (hbw : base ≤ w0.heap.size) (hw0 : FrT (Zc0 gw) w0 w)
    (hC : HoldsC b Sx R vt w) (hS : w.heap[Sx]? = some (.cells (searchC P wv ev mk) 159 (0, 0))) (hT : w.ownsRow B 204 2 vt n (tvV n)) (hW : w.ownsRow Bw 3 1 wv n (noneV n)) (hgi : ∃ cur, w.heap[gw]? = some (.cells cur 3 (0, 0))) (hbg : b ≠ gw ∧ b + 1 ≠ gw ∧ Sx ≠ gw) (hvt : ∀ q, vt.ownBlock = some q → q ≠ gw) (hwv : ∀ q, wv.ownBlock = some q → q = gw) (hN : 3 ≤ N) :
    HandsZ N Tryz.prog 150 #[.pointer (some ⟨b, 0, none⟩), .pointer (some ⟨b + 1, 0, none⟩)] (fun x : List Nat => #[]) (fun x W => W.ownsRow Bw 3 1 wv n (numV (x.take n))) (fun _ => False) (fun k o => k = ix ∨ (k = gw ∧ isInt o)) (fun _ o => isOut o) rows w := by
  intro l J W hWW hJ hY h0
  have hZ0 : FrT (Zc0 gw) w W := hWW.mono (fun _ _ _ h => .inr h)
  have HH0 := hide (And.intro h (hw0.trans hZ0))
  have HRX := hide (h.out (hw0.trans hZ0) hgw)
  have hck : ∀ (k : Nat) (cur : Array Value) (t : TypeId), w.heap[k]? = some (.cells cur t (0, 0)) → t ≠ 4 → t ≠ 28 → t ≠ 22 → W.heap[k]? = some (.cells cur t (0, 0)) := by
    intro k cur t hk n1 n2 n3
    refine hWW.block k _ hk (fun e => ?_)
    rcases isOut_cells e with e | e | e
    · exact n1 e
    · exact n2 e
    · exact n3 e
  have q1 := hck _ _ _ hC.c1 (by decide) (by decide) (by decide)
  have q2 := hck _ _ _ hC.c2 (by decide) (by decide) (by decide)
  have q3 := hck _ _ _ hS (by decide) (by decide) (by decide)
  have hTW := frt_row hWW hT (fun g cur fz _ _ => fun e => by rcases isOut_cells e with e | e | e <;> cases e)
  have hWY := frt_row hWW hW (fun g cur fz _ _ => fun e => by rcases isOut_cells e with e | e | e <;> cases e)
  obtain ⟨es, ck, hixe⟩ : ∃ es ck, W.heap[ix]? = some (.map es ck) := by
    rcases HRX.out with ⟨_, _, _, _, _, h6, _⟩ | ⟨DM, vf, h⟩
    · obtain ⟨es, ck, hq, _⟩ := h6; exact ⟨es, ck, hq⟩
    · obtain ⟨es, ck, hq, _⟩ := h.ixm; exact ⟨es, ck, hq⟩
  have hnx : ∀ (k : Nat) (cur : Array Value) (t : TypeId), W.heap[k]? = some (.cells cur t (0, 0)) → ¬ k = ix := by
    rintro k cur t hk rfl
    rw [hixe] at hk; cases hk
  have HJ := hide hJ
  have HY := hide hY
  obtain ⟨gcur, hgc⟩ := hgi
  have HGI : Hid (W.heap[gw]? = some (.cells gcur 3 (0, 0))) := hck _ _ _ hgc (by decide) (by decide) (by decide)
  have hgW : gw < W.heap.size := lt_of_heap HGI.out
  have hixl : ix < W.heap.size := lt_of_heap hixe
  obtain ⟨wY, HWY⟩ : ∃ wY, Hid (wY = W.alloc (.cells #[.func (.yield l) #[] #[]] 112)) := ⟨_, rfl⟩
  have hwY := HWY.out.symm
  have HGY : Hid (W.grownBy wY none) := by rw [HWY.out]; exact fr_alloc _ _ _
  have HBX : Hid (HoldsB B Bw W.heap.size l b Sx P R n wv vt mk ev wY) := by
    have hg := HGY.out
    refine ⟨by rw [HWY.out]; exact heap_alloc_new _ _, ⟨(hg.block _ (lt_of_heap q1) (by simp)).trans q1, (hg.block _ (lt_of_heap q2) (by simp)).trans q2⟩, (hg.block _ (lt_of_heap q3) (by simp)).trans q3, hTW.kept hg (by cases vt.ownBlock <;> simp)⟩
  have HWN : Hid (wY.ownsRow Bw 3 1 wv n (noneV n)) := hWY.kept HGY.out (by cases wv.ownBlock <;> simp)
  have H0 : Hid (J 0 wY) := HJ.out _ _ _ h0 (FrT.none HGY.out)
  have hne : ¬ W.heap.size = ix ∧ ¬ b = ix ∧ ¬ b + 1 = ix ∧ ¬ Sx = ix := ⟨by omega, hnx _ _ _ q1, hnx _ _ _ q2, hnx _ _ _ q3⟩
  have HNE := hide hne
  have HNV : Hid (∀ q, vt.ownBlock = some q → q ≠ ix) := fun q hq => by
    obtain ⟨cur, h1⟩ := own_type hTW hq
    exact hnx _ _ _ h1
  have HNW : Hid (∀ q, wv.ownBlock = some q → q ≠ ix) := fun q hq => by
    obtain ⟨cur, h1⟩ := own_type hWY hq
    exact hnx _ _ _ h1
  obtain ⟨va, vc, hve⟩ := own_form hT
  have HSR : Hid (Calls Tryz.prog 151 #[.pointer (some ⟨Sx, 0, none⟩), .agg #[.int .i64 0, .int .i64 0, .pointer (some ⟨R, 0, none⟩), .slice va n vc]] wY fun e w' => ∃ b, e = .returned (.func (.func 201) #[] #[.pointer (some ⟨b, 0, none⟩), .pointer (some ⟨b + 1, 0, none⟩), .pointer (some ⟨b + 1 + 1, 0, none⟩), .pointer (some ⟨b + 1 + 1 + 1, 0, none⟩)]) ∧ RowsC b R rows.length w' ∧ wY.heap.size ≤ b ∧ wY.grownBy w' none) := by
    rw [← hve]
    have hrb := HRX.out.blk
    exact srows_any B Bw Sx P R n old rows.length ix wv vt mk vr vu ev wY HBX.out.s HWN.out HBX.out.t ((HGY.out.block _ (lt_of_heap hrb) (by simp)).trans hrb) hn
  have k0 : wY.cell? ⟨b, 0, none⟩ = some (.pointer (some ⟨Sx, 0, none⟩)) := cell_of HBX.out.c.c1 0 _ rfl
  have k1 : wY.cell? ⟨b + 1, 0, none⟩ = some (.int .i64 0) := cell_of HBX.out.c.c2 0 _ rfl
  have k2 : wY.cell? ⟨b + 1, 1, none⟩ = some (.int .i64 0) := cell_of HBX.out.c.c2 1 _ rfl
  have k3 : wY.cell? ⟨b + 1, 2, none⟩ = some (.pointer (some ⟨R, 0, none⟩)) := cell_of HBX.out.c.c2 2 _ rfl
  have k4 : wY.cell? ⟨b + 1, 3, none⟩ = some (.slice va n vc) := by rw [← hve]; exact cell_of HBX.out.c.c2 3 _ rfl
  clear hJ hY h0 hC h hw0 hWW hck q1 q2 q3 hTW hWY hT hW hS hZ0 hnx hixe
  refine callsIn_of_wp_marks Tryz.func150 rfl trivial ?_ rfl
  simp only [Tryz.ntmps150, List.size_toArray, List.length_cons, List.length_nil, Nat.reduceAdd, Nat.reduceSub, Array.replicate_succ, Array.replicate_zero, List.push_toArray, List.append_toArray, List.nil_append, List.cons_append]
  gi_wp2_with fail
  refine ⟨trivial, fun h => (by cases h), ?_⟩
  refine (callsIn_wide.2 HSR.out).mono ?_
  rintro e w3 ⟨b2, rfl, hRC, hb2, hg3⟩
  have HRC := hide hRC
  have HG3 := hide hg3
  have hsY : wY.heap.size = W.heap.size + 1 := by rw [HWY.out]; simp
  have hs3 : wY.heap.size ≤ w3.heap.size := hg3.size
  have HB3 : Hid (HoldsB B Bw W.heap.size l b Sx P R n wv vt mk ev w3) := by
    have hb := HBX.out
    refine ⟨(hg3.block _ (lt_of_heap hb.y) (by simp)).trans hb.y, ⟨(hg3.block _ (lt_of_heap hb.c.c1) (by simp)).trans hb.c.c1, (hg3.block _ (lt_of_heap hb.c.c2) (by simp)).trans hb.c.c2⟩, (hg3.block _ (lt_of_heap hb.s) (by simp)).trans hb.s, hb.t.kept hg3 (by cases vt.ownBlock <;> simp)⟩
  have HW3 : Hid (w3.ownsRow Bw 3 1 wv n (noneV n)) := HWN.out.kept hg3 (by cases wv.ownBlock <;> simp)
  have HJ3 : Hid (J 0 w3) := HJ.out _ _ _ H0.out (FrT.none hg3)
  have HGW3 : Hid (W.grownBy w3 none) := fr_both HGY.out hg3
  clear hRC hg3 k0 k1 k2 k3 k4 HSR
  gi_wp2_with fail
  refine rangeZ (by omega) (gf := 201) (lb := #[.pointer (some ⟨b2, 0, none⟩), .pointer (some ⟨b2 + 1, 0, none⟩), .pointer (some ⟨b2 + 1 + 1, 0, none⟩), .pointer (some ⟨b2 + 1 + 1 + 1, 0, none⟩)]) rfl (enters_of Tryz.func201 (by kernel_rfl) rfl)
    (rows_hands (N - 1) base R ix im n gw b2 rows old vr vu w0 w3 HH0.out.1 hn hrl hgw hbw (HH0.out.2.trans (FrT.none HGW3.out)) HRC.out (by refine ⟨?_, ?_, ?_, ?_⟩ <;> omega) (by omega))
    (FrT.refl _ _) (fun k _ h => by have h' : k = ix := h; omega) (fun k o h hr => ?rec) (fun _ => rfl)
    (fun i W' => Hid (J i W') ∧ Hid (HoldsB B Bw W.heap.size l b Sx P R n wv vt mk ev W') ∧ Hid (W'.ownsRow Bw 3 1 wv n (noneV n)))
    ?low ⟨HJ3, HB3, HW3⟩ (fun _ _ _ _ _ => trivial)
    (fun x a' W' => ∃ Bx, W'.heap[Bx]? = some (.cells (numV x).toArray 193 (0, 0)) ∧ W.heap.size < Bx ∧ a' = { tmps := #[.func (.yield l) #[] #[], .pointer (some ⟨b, 0, none⟩), .pointer (some ⟨b + 1, 0, none⟩), .pointer (some ⟨W.heap.size, 0, none⟩), .pointer (some ⟨Bx, 0, none⟩), undef, undef, undef, .pointer (some ⟨Sx, 0, none⟩), .agg #[.int .i64 0, .int .i64 0, .pointer (some ⟨R, 0, none⟩), .slice va n vc], .func (.func 201) #[] #[.pointer (some ⟨b2, 0, none⟩), .pointer (some ⟨b2 + 1, 0, none⟩), .pointer (some ⟨b2 + 1 + 1, 0, none⟩), .pointer (some ⟨b2 + 1 + 1 + 1, 0, none⟩)], rowV x, undef, undef, undef, undef, undef, undef, undef, undef, undef, undef, undef, undef, undef, undef, undef, undef, undef, undef, undef, undef, undef], defers := [] })
    ?hAx ?assign ?body ?done
  case rec =>
    rcases h with ⟨_, h⟩ | ⟨c, t, f, rfl, _⟩
    · exact h hr
    · exact hr
  case low =>
    rintro i A C ⟨hj, hb, hw⟩ hf
    have hcel : ∀ k cur t, A.heap[k]? = some (.cells cur t (0, 0)) → ¬ k = ix → C.heap[k]? = some (.cells cur t (0, 0)) := fun k cur t hk hne => hf.block k _ hk (by rintro (e | ⟨_, e | e⟩); exact hne e; exact e; exact e)
    obtain ⟨n1, n2, n3, n4⟩ := HNE.out
    refine ⟨HJ.out _ _ _ hj.out (hf.mono (fun k o _ h => h.imp .inl (fun h => ⟨by omega, h.2⟩))), ⟨hcel _ _ _ hb.out.y n1, ⟨hcel _ _ _ hb.out.c.c1 n2, hcel _ _ _ hb.out.c.c2 n3⟩, hcel _ _ _ hb.out.s n4, ?_⟩, ?_⟩
    · exact frt_row hf hb.out.t (fun g cur fz hg _ => by rintro (e | ⟨_, e | e⟩); exact HNV.out g hg e; exact e; exact e)
    · exact frt_row hf hw.out (fun g cur fz hg _ => by rintro (e | ⟨_, e | e⟩); exact HNW.out g hg e; exact e; exact e)
  case hAx =>
    rintro x a' A C ⟨Bx, h0, h1, rfl⟩ hf
    exact ⟨Bx, hf.block _ _ h0 (fun h => h), h1, rfl⟩
  case assign =>
    rintro l' i x W' K hx ⟨_, hB, _⟩ _ hK
    have har := HRX.out.rok x (List.mem_of_getElem? hx)
    have HK := hide hK
    clear hK
    obtain ⟨a0, a1, a2, a3, a4, a5, a6, a7, rfl⟩ := row8 x har.1
    dsimp only [rowV, numV, List.map]
    gi_wp2
    refine HK.out _ _ (FrT.alloc _ _ _) ⟨W'.heap.size, heap_alloc_new _ _, lt_of_heap hB.out.y, rfl⟩
  case body =>
    rintro l' i x a' W1 hx ⟨HJ1, HB1, HW1⟩ _ ⟨Bx, hBx, hBl, rfl⟩ hl'
    have har := HRX.out.rok x (List.mem_of_getElem? hx)
    have HX := hide hx
    obtain ⟨wa, wc, hwe⟩ := own_form HW1.out
    obtain ⟨a0, a1, a2, a3, a4, a5, a6, a7, rfl⟩ := row8 x har.1
    have HAR := hide har
    have HPUT : Hid (∀ W, (∃ k, W = W1.drewN k) → Calls Tryz.prog 152 #[.slice wa n wc, .slice va n vc, (.agg #[.int .i64 (a0 : Nat), .int .i64 (a1 : Nat), .int .i64 (a2 : Nat), .int .i64 (a3 : Nat), .int .i64 (a4 : Nat), .int .i64 (a5 : Nat), .int .i64 (a6 : Nat), .int .i64 (a7 : Nat)])] W fun e w' => ∃ wb bb bv, e = .returned (.tuple #[.func (.func 190) #[] #[.pointer (some ⟨bb, 0, none⟩), .pointer (some ⟨wb, 0, none⟩)], .bool true]) ∧ Hid (w'.heap[wb]? = some (.cells #[wv] 151 (0, 0)) ∧ w'.heap[bb]? = some (.cells #[bv] 97 (0, 0)) ∧ w'.ownsRow W1.heap.size 3 1 bv n (upV n) ∧ W1.heap.size ≤ wb ∧ W1.heap.size ≤ bb) ∧ Hid (w'.ownsRow Bw 3 1 wv n (numV ([a0, a1, a2, a3, a4, a5, a6, a7].take n))) ∧ Hid (FrS (fun j => wv.ownBlock = some j) W1 w')) := by
      rintro Wd ⟨k, rfl⟩
      have hd := fr_draws W1 k none
      have := wayPut_any B Bw n wv vt [a0, a1, a2, a3, a4, a5, a6, a7] (W1.drewN k) (HW1.out.kept hd (by cases wv.ownBlock <;> simp)) (HB1.out.t.kept hd (by cases vt.ownBlock <;> simp)) hn HAR.out
      rw [hve, hwe] at this
      refine this.mono ?_
      rw [hwe]
      rintro e w' ⟨⟨wb, bb, bv, rfl, h1, h2, h3, h4, h5⟩, h6, h7⟩
      exact ⟨wb, bb, bv, rfl, ⟨h1, h2, h3, h4, h5⟩, h6, FrS.trans (S' := fun j => (Value.slice wa n wc).ownBlock = some j) (FrS.none hd) h7 (fun _ _ e => e)⟩
    have hmx : Tryz.prog.follows .mixedOrders = true := by kernel_rfl
    have k0 : W1.drew.cell? ⟨b, 0, none⟩ = some (.pointer (some ⟨Sx, 0, none⟩)) := cell_of HB1.out.c.c1 0 _ rfl
    have k1 : W1.drew.cell? ⟨Sx, 2, none⟩ = some (.slice wa n wc) := by rw [← hwe]; exact cell_of HB1.out.s 2 _ rfl
    have k2 : W1.drew.cell? ⟨b + 1, 3, none⟩ = some (.slice va n vc) := by rw [← hve]; exact cell_of HB1.out.c.c2 3 _ rfl
    have HS : (fun W : World => W.cell? ⟨b, 0, none⟩ = some (.pointer (some ⟨Sx, 0, none⟩)) ∧ W.cell? ⟨Sx, 2, none⟩ = some (.slice wa n wc) ∧ W.cell? ⟨b + 1, 3, none⟩ = some (.slice va n vc) ∧ W.cell? ⟨Bx, 0, none⟩ = some (.int .i64 (a0 : Nat)) ∧ W.cell? ⟨Bx, 1, none⟩ = some (.int .i64 (a1 : Nat)) ∧ W.cell? ⟨Bx, 2, none⟩ = some (.int .i64 (a2 : Nat)) ∧ W.cell? ⟨Bx, 3, none⟩ = some (.int .i64 (a3 : Nat)) ∧ W.cell? ⟨Bx, 4, none⟩ = some (.int .i64 (a4 : Nat)) ∧ W.cell? ⟨Bx, 5, none⟩ = some (.int .i64 (a5 : Nat)) ∧ W.cell? ⟨Bx, 6, none⟩ = some (.int .i64 (a6 : Nat)) ∧ W.cell? ⟨Bx, 7, none⟩ = some (.int .i64 (a7 : Nat))) W1.drew := ⟨k0, k1, k2, cell_of hBx 0 _ rfl, cell_of hBx 1 _ rfl, cell_of hBx 2 _ rfl, cell_of hBx 3 _ rfl, cell_of hBx 4 _ rfl, cell_of hBx 5 _ rfl, cell_of hBx 6 _ rfl, cell_of hBx 7 _ rfl⟩
    have HBX1 := hide hBx
    clear hBx k0 k1 k2 har
    gi_wp2_with fail
    refine region_round (fun W : World => W.cell? ⟨b, 0, none⟩ = some (.pointer (some ⟨Sx, 0, none⟩)) ∧ W.cell? ⟨Sx, 2, none⟩ = some (.slice wa n wc) ∧ W.cell? ⟨b + 1, 3, none⟩ = some (.slice va n vc) ∧ W.cell? ⟨Bx, 0, none⟩ = some (.int .i64 (a0 : Nat)) ∧ W.cell? ⟨Bx, 1, none⟩ = some (.int .i64 (a1 : Nat)) ∧ W.cell? ⟨Bx, 2, none⟩ = some (.int .i64 (a2 : Nat)) ∧ W.cell? ⟨Bx, 3, none⟩ = some (.int .i64 (a3 : Nat)) ∧ W.cell? ⟨Bx, 4, none⟩ = some (.int .i64 (a4 : Nat)) ∧ W.cell? ⟨Bx, 5, none⟩ = some (.int .i64 (a5 : Nat)) ∧ W.cell? ⟨Bx, 6, none⟩ = some (.int .i64 (a6 : Nat)) ∧ W.cell? ⟨Bx, 7, none⟩ = some (.int .i64 (a7 : Nat))) _ hmx (by kernel_rfl) ?reg (fun a' w' h => h)
    case reg =>
      refine wpAnyH_take (i := 0) (v := .pointer (some ⟨Sx, 0, none⟩)) rfl (by kernel_rfl) (by kernel_rfl) (by kernel_rfl) (fun _ _ _ h => (by cases h.1)) (Or.inl ⟨by rfl, fun W hSW => ?_⟩) HS ?_
      · obtain ⟨s0, s1, s2, s3, s4, s5, s6, s7, s8, s9, s10⟩ := hSW
        go_simp
      try simp only [Act.put, List.setIfInBounds_toArray]
      refine wpAnyH_take (i := 1) (v := .pointer (some ⟨Sx, 0, none⟩)) rfl (by kernel_rfl) (by kernel_rfl) (by kernel_rfl) (fun _ _ _ h => (by cases h.1)) (Or.inl ⟨by rfl, fun W hSW => ?_⟩) HS ?_
      · obtain ⟨s0, s1, s2, s3, s4, s5, s6, s7, s8, s9, s10⟩ := hSW
        go_simp
      try simp only [Act.put]
      refine wpAnyH_take (i := 2) (v := .pointer (some ⟨Sx, 2, none⟩)) rfl (by kernel_rfl) (by kernel_rfl) (by kernel_rfl) (fun _ _ _ h => (by cases h.1)) (Or.inl ⟨by rfl, fun W hSW => ?_⟩) HS ?_
      · obtain ⟨s0, s1, s2, s3, s4, s5, s6, s7, s8, s9, s10⟩ := hSW
        go_simp
      try simp only [Act.put]
      refine wpAnyH_take (i := 3) (v := .slice wa n wc) rfl (by kernel_rfl) (by kernel_rfl) (by kernel_rfl) (fun _ _ _ h => (by cases h.1)) (Or.inl ⟨by rfl, fun W hSW => ?_⟩) HS ?_
      · obtain ⟨s0, s1, s2, s3, s4, s5, s6, s7, s8, s9, s10⟩ := hSW
        go_simp
      try simp only [Act.put]
      refine wpAnyH_take (i := 4) (v := .pointer (some ⟨b + 1, 3, none⟩)) rfl (by kernel_rfl) (by kernel_rfl) (by kernel_rfl) (fun _ _ _ h => (by cases h.1)) (Or.inl ⟨by rfl, fun W hSW => ?_⟩) HS ?_
      · obtain ⟨s0, s1, s2, s3, s4, s5, s6, s7, s8, s9, s10⟩ := hSW
        go_simp
      try simp only [Act.put]
      refine wpAnyH_take (i := 5) (v := .slice va n vc) rfl (by kernel_rfl) (by kernel_rfl) (by kernel_rfl) (fun _ _ _ h => (by cases h.1)) (Or.inl ⟨by rfl, fun W hSW => ?_⟩) HS ?_
      · obtain ⟨s0, s1, s2, s3, s4, s5, s6, s7, s8, s9, s10⟩ := hSW
        go_simp
      try simp only [Act.put]
      refine wpAnyH_take (i := 6) (v := (.agg #[.int .i64 (a0 : Nat), .int .i64 (a1 : Nat), .int .i64 (a2 : Nat), .int .i64 (a3 : Nat), .int .i64 (a4 : Nat), .int .i64 (a5 : Nat), .int .i64 (a6 : Nat), .int .i64 (a7 : Nat)])) rfl (by kernel_rfl) (by kernel_rfl) (by kernel_rfl) (fun _ _ _ h => (by cases h.1)) (Or.inl ⟨by rfl, fun W hSW => ?_⟩) HS ?_
      · obtain ⟨s0, s1, s2, s3, s4, s5, s6, s7, s8, s9, s10⟩ := hSW
        go_simp
      try simp only [Act.put]
      refine wpAnyH_ready (rs := [7]) (by kernel_rfl) (by simp) (AllReadyH.cons rfl (fun K hK => ?_) AllReadyH.nil)
      go_simp
      refine (HPUT.out _ ⟨1, rfl⟩).mono ?_
      rintro e w2 ⟨wb, bb, bv, rfl, HT2, HW2, HF2⟩
      obtain ⟨g1, g2, g3⟩ := hbg
      have HB2 : Hid (HoldsB B Bw W.heap.size l b Sx P R n wv vt mk ev w2) := by
        have hb := HB1.out
        have hk : ∀ k cur t, W1.heap[k]? = some (.cells cur t (0, 0)) → k ≠ gw → w2.heap[k]? = some (.cells cur t (0, 0)) := fun k cur t hk hne => (HF2.out.block k (lt_of_heap hk) (fun e => hne (hwv k e))).trans hk
        exact ⟨hk _ _ _ hb.y (by omega), ⟨hk _ _ _ hb.c.c1 g1, hk _ _ _ hb.c.c2 g2⟩, hk _ _ _ hb.s g3, HF2.out.row hb.t (fun g cur fz hg _ _ e => hvt g hg (hwv g e))⟩
      have hx2 := (HF2.out.block Bx (lt_of_heap HBX1.out) (fun e => by have := hwv Bx e; omega)).trans HBX1.out
      have HS2 : (fun W : World => W.cell? ⟨b, 0, none⟩ = some (.pointer (some ⟨Sx, 0, none⟩)) ∧ W.cell? ⟨Sx, 2, none⟩ = some (.slice wa n wc) ∧ W.cell? ⟨b + 1, 3, none⟩ = some (.slice va n vc) ∧ W.cell? ⟨Bx, 0, none⟩ = some (.int .i64 (a0 : Nat)) ∧ W.cell? ⟨Bx, 1, none⟩ = some (.int .i64 (a1 : Nat)) ∧ W.cell? ⟨Bx, 2, none⟩ = some (.int .i64 (a2 : Nat)) ∧ W.cell? ⟨Bx, 3, none⟩ = some (.int .i64 (a3 : Nat)) ∧ W.cell? ⟨Bx, 4, none⟩ = some (.int .i64 (a4 : Nat)) ∧ W.cell? ⟨Bx, 5, none⟩ = some (.int .i64 (a5 : Nat)) ∧ W.cell? ⟨Bx, 6, none⟩ = some (.int .i64 (a6 : Nat)) ∧ W.cell? ⟨Bx, 7, none⟩ = some (.int .i64 (a7 : Nat))) w2 := ⟨cell_of HB2.out.c.c1 0 _ rfl, by rw [← hwe]; exact cell_of HB2.out.s 2 _ rfl, by rw [← hve]; exact cell_of HB2.out.c.c2 3 _ rfl, cell_of hx2 0 _ rfl, cell_of hx2 1 _ rfl, cell_of hx2 2 _ rfl, cell_of hx2 3 _ rfl, cell_of hx2 4 _ rfl, cell_of hx2 5 _ rfl, cell_of hx2 6 _ rfl, cell_of hx2 7 _ rfl⟩
      refine hK.out _ _ HS2 (fun _ => ?_)
      clear hK K hx2
      try simp only [Act.put, List.setIfInBounds_toArray, List.set_cons_zero, List.set_cons_succ]
      refine wpAnyH_take (i := 8) (v := (.tuple #[(.func (.func 190) #[] #[.pointer (some ⟨bb, 0, none⟩), .pointer (some ⟨wb, 0, none⟩)]), .bool true])) rfl (by kernel_rfl) (by kernel_rfl) (by kernel_rfl) (fun _ _ _ h => (by cases h.1)) (Or.inl ⟨by rfl, fun W hSW => ?_⟩) HS2 ?_
      · obtain ⟨s0, s1, s2, s3, s4, s5, s6, s7, s8, s9, s10⟩ := hSW
        go_simp
      try simp only [Act.put, List.setIfInBounds_toArray]
      refine wpAnyH_take (i := 9) (v := (.func (.func 190) #[] #[.pointer (some ⟨bb, 0, none⟩), .pointer (some ⟨wb, 0, none⟩)])) rfl (by kernel_rfl) (by kernel_rfl) (by kernel_rfl) (fun _ _ _ h => (by cases h.1)) (Or.inl ⟨by rfl, fun W hSW => ?_⟩) HS2 ?_
      · obtain ⟨s0, s1, s2, s3, s4, s5, s6, s7, s8, s9, s10⟩ := hSW
        go_simp
      try simp only [Act.put]
      refine wpAnyH_take (i := 10) (v := .bool true) rfl (by kernel_rfl) (by kernel_rfl) (by kernel_rfl) (fun _ _ _ h => (by cases h.1)) (Or.inl ⟨by rfl, fun W hSW => ?_⟩) HS2 ?_
      · obtain ⟨s0, s1, s2, s3, s4, s5, s6, s7, s8, s9, s10⟩ := hSW
        go_simp
      try simp only [Act.put]
      refine wpAnyH_take (i := 11) (v := (.func (.func 190) #[] #[.pointer (some ⟨bb, 0, none⟩), .pointer (some ⟨wb, 0, none⟩)])) rfl (by kernel_rfl) (by kernel_rfl) (by kernel_rfl) (fun _ _ _ h => (by cases h.1)) (Or.inl ⟨by rfl, fun W hSW => ?_⟩) HS2 ?_
      · obtain ⟨s0, s1, s2, s3, s4, s5, s6, s7, s8, s9, s10⟩ := hSW
        go_simp
      try simp only [Act.put]
      refine wpAnyH_take (i := 12) (v := .bool true) rfl (by kernel_rfl) (by kernel_rfl) (by kernel_rfl) (fun _ _ _ h => (by cases h.1)) (Or.inl ⟨by rfl, fun W hSW => ?_⟩) HS2 ?_
      · obtain ⟨s0, s1, s2, s3, s4, s5, s6, s7, s8, s9, s10⟩ := hSW
        go_simp
      try simp only [Act.put]
      refine wpAnyH_done (by kernel_rfl) ⟨rfl, ?_⟩ _
      have HJ2 : Hid (J i w2) := HJ.out _ _ _ HJ1.out ⟨HF2.out.os, HF2.out.tape, HF2.out.output, HF2.out.size, fun k o hk hz => (HF2.out.block k (lt_of_heap hk) (fun e => hz (.inl (.inr ⟨hwv k e, by obtain ⟨cur, hc⟩ := own_type HW1.out e; rw [hc] at hk; cases hk; exact ⟨cur, rfl⟩⟩)))).trans hk⟩
      obtain ⟨fn, tmps, assign, body, hy, hR⟩ := HY.out i _ w2 HX.out HJ2.out HW2.out
      have HRR := hide hR
      have yb : w2.cell? ⟨W.heap.size, 0, none⟩ = some (.func (.yield l) #[] #[]) := cell_of HB2.out.y 0 _ rfl
      clear hR HS HS2
      gi_wp2
      refine ⟨fun h => (by cases h), RoundIn.mono (round_wide HRR.out) ?_⟩
      rintro e W4 ⟨rfl, hJ4, hr4⟩
      have HJ4 : Hid (J (i + 1) W4) := hJ4
      have HR4 := hide hr4
      have hout : ∀ (k : Nat) (cur : Array Value) (t : TypeId), w2.heap[k]? = some (.cells cur t (0, 0)) → t ≠ 4 → t ≠ 28 → t ≠ 22 → W4.heap[k]? = some (.cells cur t (0, 0)) := by
        intro k cur t hk n1 n2 n3
        refine hr4.block k _ hk (fun e => ?_)
        rcases isOut_cells e with e | e | e
        · exact n1 e
        · exact n2 e
        · exact n3 e
      have HB4 : Hid (HoldsB B Bw W.heap.size l b Sx P R n wv vt mk ev W4) := by
        have hb := HB2.out
        exact ⟨hout _ _ _ hb.y (by decide) (by decide) (by decide), ⟨hout _ _ _ hb.c.c1 (by decide) (by decide) (by decide), hout _ _ _ hb.c.c2 (by decide) (by decide) (by decide)⟩, hout _ _ _ hb.s (by decide) (by decide) (by decide), frt_row hr4 hb.t (fun g cur fz _ _ => fun e => by rcases isOut_cells e with e | e | e <;> cases e)⟩
      have HW4 : Hid (W4.ownsRow Bw 3 1 wv n (numV ([a0, a1, a2, a3, a4, a5, a6, a7].take n))) := frt_row hr4 HW2.out (fun g cur fz _ _ => fun e => by rcases isOut_cells e with e | e | e <;> cases e)
      obtain ⟨t1, t2, t3, t4, t5⟩ := HT2.out
      have hlB := lt_of_heap HBX1.out
      have HTK : Hid (Calls Tryz.prog 190 #[.pointer (some ⟨bb, 0, none⟩), .pointer (some ⟨wb, 0, none⟩)] W4 fun e w' => e = .returned (.tuple #[]) ∧ w'.ownsRow Bw 3 1 wv n (noneV n) ∧ FrS (fun j => wv.ownBlock = some j) W4 w') := by
        refine takeBack_any W1.heap.size Bw n wb bb wv bv _ W4 (cell_of (hout _ _ _ t1 (by decide) (by decide) (by decide)) 0 _ rfl) (cell_of (hout _ _ _ t2 (by decide) (by decide) (by decide)) 0 _ rfl) (frt_row hr4 t3 (fun g cur fz _ _ => fun e => by rcases isOut_cells e with e | e | e <;> cases e)) HW4.out hn (fun q hq => ?_)
        have hq' := hwv q hq
        refine ⟨by omega, by omega, fun e => ?_⟩
        have := (own_old t3 e).1
        omega
      clear hJ4 hr4 hout HRR hy yb
      gi_wp2_with fail
      refine ⟨trivial, fun h => (by cases h), CallsIn.mono (CallsIn.inRound l' (callsIn_wide.2 HTK.out)) ?_⟩
      rintro e w5 ⟨rfl, hW5, hF5⟩
      have HW5 := hide hW5
      have HF5 := hide hF5
      have HJ5 : Hid (J (i + 1) w5) := HJ.out _ _ _ HJ4.out (frs_frt hF5 (fun k o e hk => .inl (.inr ⟨hwv k e, by obtain ⟨cur, hc⟩ := own_type HW4.out e; rw [hc] at hk; cases hk; exact ⟨cur, rfl⟩⟩)))
      have HB5 : Hid (HoldsB B Bw W.heap.size l b Sx P R n wv vt mk ev w5) := by
        have hb := HB4.out
        have hk : ∀ k cur t, W4.heap[k]? = some (.cells cur t (0, 0)) → k ≠ gw → w5.heap[k]? = some (.cells cur t (0, 0)) := fun k cur t hk hne => (hF5.block k (lt_of_heap hk) (fun e => hne (hwv k e))).trans hk
        exact ⟨hk _ _ _ hb.y (by omega), ⟨hk _ _ _ hb.c.c1 g1, hk _ _ _ hb.c.c2 g2⟩, hk _ _ _ hb.s g3, hF5.row hb.t (fun g cur fz hg _ _ e => hvt g hg (hwv g e))⟩
      have HFF : Hid (FrT (Zc0 gw) W1 w5) := by
        refine ((frs_frt HF2.out (fun k o e ho => .inl ⟨hwv k e, fun hr => ?_⟩)).trans (HR4.out.mono (fun _ _ _ h => .inr h))).trans (frs_frt hF5 (fun k o e ho => .inl ⟨hwv k e, fun hr => ?_⟩))
        · obtain ⟨cur, hc⟩ := own_type HW4.out e
          rw [hc] at ho; cases ho; exact hr
        · obtain ⟨cur, hc⟩ := own_type HW1.out e
          rw [hc] at ho; cases ho; exact hr
      clear hW5 hF5
      gi_wp2
      rw [← hwe, ← hve]
      exact ⟨⟨HB5, HW5⟩, HFF.out⟩
  case done =>
    rintro D W' hD ⟨HJD, _, _⟩ hd hfr
    gi_wp2
    refine ⟨by simp, .inl ⟨_, _, rfl, run_takeDeferred hd, ?_⟩⟩
    have hDp : FrT (fun k o => k = D ∧ isRec o) W' (W'.putObj D (.deferred none)) := FrT.put W' D _ (fun o ho => by rw [hd] at ho; cases ho; exact ⟨rfl, trivial⟩)
    refine ⟨_, results_none rfl _ _ _, ⟨_, rfl⟩, HJ.out _ _ _ HJD.out (hDp.mono (fun k o _ h => .inr ⟨by rw [h.1]; omega, .inl h.2⟩)), ?_⟩
    refine ((FrT.none HGW3.out).trans (hfr.mono (fun k o hk h => ?_))).trans (hDp.mono (fun k o _ h => .inl (.inr ⟨by rw [h.1]; omega, .inl h.2⟩)))
    rcases h with (h | ⟨h1, h2⟩) | ⟨h, _⟩ | h
    · exact .inl (.inl (.inl h))
    · exact .inl (.inr ⟨by omega, h2⟩)
    · subst h
      rw [(HGW3.out.block _ (lt_of_heap HGI.out) (by simp)).trans HGI.out] at hk
      cases hk
      exact .inl (.inl (.inr ⟨rfl, _, rfl⟩))
    · exact .inr h
end Go.Proofs.YtdfbjnachakkhaaGreatDoor
