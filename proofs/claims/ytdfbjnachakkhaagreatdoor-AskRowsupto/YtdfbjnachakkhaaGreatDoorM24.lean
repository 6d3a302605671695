import Derived.Test.YtdfbjnachakkhaaGreatDoorM23
namespace Go.Proofs.YtdfbjnachakkhaaGreatDoor
open Go.ChangeShapes Go.WideShapes Go.ChangeAt Go.RowKit Go.Hands Go.WideMaps Go.Maps
set_option linter.unusedVariables false
set_option maxRecDepth 100000
attribute [local go_sem] Oper.semAt_some
structure WaysC (b Sx done all : Nat) (w : World) : Prop where
  c1 : w.heap[b]? = some (.cells #[.pointer (some ⟨Sx, 0, none⟩)] 149 (0, 0))
  c2 : w.heap[b + 1]? = some (.cells #[.int .i64 (done : Nat)] 3 (0, 0))
  c3 : w.heap[b + 1 + 1]? = some (.cells #[.int .i64 (all : Nat)] 3 (0, 0))
set_option maxHeartbeats 1000000 in
theorem sways_any (Sx done all : Nat) (w : World) :
    Calls Tryz.prog 71 #[.pointer (some ⟨Sx, 0, none⟩), .int .i64 (done : Nat), .int .i64 (all : Nat)] w fun e w' => e = .returned (.func (.func 108) #[] #[.pointer (some ⟨w.heap.size + 1, 0, none⟩), .pointer (some ⟨w.heap.size + 1 + 1, 0, none⟩), .pointer (some ⟨w.heap.size, 0, none⟩)]) ∧ WaysC w.heap.size Sx done all w' ∧ w.grownBy w' none := by
  go_enter Tryz.func71, Tryz.ntmps71
  go_wp2
  go_ret
  exact ⟨rfl, ⟨al3_0 _ _ _ _, al3_1 _ _ _ _, al3_2 _ _ _ _⟩, fr_both (fr_both (fr_alloc _ _ _) (fr_alloc _ _ _)) (fr_alloc _ _ _)⟩
set_option maxHeartbeats 4000000 in
theorem ways_all (N Sx P b k : Nat) (wv mk : Value) (ev : Bool) (Zc : Nat → Obj → Prop) (w : World) (hC : WaysC b Sx k k w) (hS : w.heap[Sx]? = some (.cells (searchC P wv ev mk) 159 (0, 0))) (hk : k ≤ 1000)
    (h1 : ∀ o, w.heap[b]? = some o → ¬ Zc b o) (h2 : ∀ o, w.heap[b + 1]? = some o → ¬ Zc (b + 1) o) (h3 : ∀ o, w.heap[b + 1 + 1]? = some o → ¬ Zc (b + 1 + 1) o) (h4 : ∀ o, w.heap[Sx]? = some o → ¬ Zc Sx o) :
    HandsZ N Tryz.prog 108 #[.pointer (some ⟨b + 1, 0, none⟩), .pointer (some ⟨b + 1 + 1, 0, none⟩), .pointer (some ⟨b, 0, none⟩)] (fun _ : Unit => #[wv]) (fun _ _ => True) (fun _ => False) (fun _ _ => False) Zc [()] w := by
  intro l J W hWW hJ hY h0
  have q1 := hWW.block _ _ hC.c1 (h1 _ hC.c1)
  have q2 := hWW.block _ _ hC.c2 (h2 _ hC.c2)
  have q3 := hWW.block _ _ hC.c3 (h3 _ hC.c3)
  have q4 := hWW.block _ _ hS (h4 _ hS)
  have HJ := hide hJ
  have HY := hide hY
  obtain ⟨wY, HWY⟩ : ∃ wY, Hid (wY = W.alloc (.cells #[.func (.yield l) #[] #[]] 213)) := ⟨_, rfl⟩
  have hwY := HWY.out.symm
  have HGY : Hid (W.grownBy wY none) := by rw [HWY.out]; exact fr_alloc _ _ _
  have hf := FrS.none (S := fun _ => False) HGY.out
  have k1 : wY.cell? ⟨b, 0, none⟩ = some (.pointer (some ⟨Sx, 0, none⟩)) := hf.cell (cell_of q1 0 _ rfl) (fun h => h)
  have k2 : wY.cell? ⟨b + 1, 0, none⟩ = some (.int .i64 (k : Nat)) := hf.cell (cell_of q2 0 _ rfl) (fun h => h)
  have k3 : wY.cell? ⟨b + 1 + 1, 0, none⟩ = some (.int .i64 (k : Nat)) := hf.cell (cell_of q3 0 _ rfl) (fun h => h)
  have k4 : wY.cell? ⟨Sx, 2, none⟩ = some wv := hf.cell (cell_of q4 2 _ rfl) (fun h => h)
  have k5 : wY.cell? ⟨W.heap.size, 0, none⟩ = some (.func (.yield l) #[] #[]) := cell_of (show wY.heap[W.heap.size]? = some (.cells #[.func (.yield l) #[] #[]] 213 (0, 0)) by rw [HWY.out]; exact heap_alloc_new _ _) 0 _ rfl
  have H0 : Hid (J 0 wY) := HJ.out _ _ _ h0 (FrT.none HGY.out)
  have H0d : Hid (J 0 wY.drew) := HJ.out _ _ _ H0.out (FrT.draw _ _)
  obtain ⟨fn, tmps, assign, body, hy, hR⟩ := HY.out 0 () wY.drew rfl H0d.out trivial
  have d1 : wY.drew.cell? ⟨b, 0, none⟩ = some (.pointer (some ⟨Sx, 0, none⟩)) := k1
  have d4 : wY.drew.cell? ⟨Sx, 2, none⟩ = some wv := k4
  have d5 : wY.drew.cell? ⟨W.heap.size, 0, none⟩ = some (.func (.yield l) #[] #[]) := k5
  have HRR := hide hR
  clear hJ hY h0 hC hS hWW q1 q2 q3 q4 hf hR
  have hmx : Tryz.prog.follows .mixedOrders = true := by kernel_rfl
  refine callsIn_of_wp Tryz.func108 rfl trivial ?_ rfl
  simp only [Tryz.ntmps108, List.size_toArray, List.length_cons, List.length_nil, Nat.reduceAdd, Nat.reduceSub, Array.replicate_succ, Array.replicate_zero, List.push_toArray, List.append_toArray, List.nil_append, List.cons_append]
  gi_wp2_with fail
  gi_region_with_o (refine ⟨fun h => (by cases h), HRR.out.mono ?_⟩; rintro e W3 ⟨rfl, HJ3, HR3⟩)
  all_goals
    have HJ4 := hide HJ3
    have HR4 := hide HR3
    clear HJ3 HR3
    gi_wp2
    refine bodyPost_ret (results_none rfl _ _ _) rfl ?_
    exact ⟨⟨_, rfl⟩, HJ4.out, (((FrT.none HGY.out).trans (FrT.draw _ _)).trans (HR4.out.mono (fun _ _ _ h => .inr h)))⟩
end Go.Proofs.YtdfbjnachakkhaaGreatDoor

namespace Go.Proofs.YtdfbjnachakkhaaGreatDoor
open Go.ChangeShapes Go.WideShapes Go.ChangeAt Go.RowKit Go.Hands Go.WideMaps Go.Maps
set_option linter.unusedVariables false
set_option maxRecDepth 100000
set_option maxHeartbeats 2000000 in
theorem forgetful_no (B Sx P S R n : Nat) (parts given stops vt wv mk : Value) (ev : Bool) (w : World) (hs : w.heap[Sx]? = some (.cells (searchC P wv ev mk) 159 (0, 0))) (hp : Planned B P S R n parts given stops vt w) :
    Calls Tryz.prog 148 #[.pointer (some ⟨Sx, 0, none⟩), .int .i64 0] w fun e w' => e = .returned (.bool false) ∧ w.grownBy w' none := by
  obtain ⟨gs, cs, hse, _, _⟩ := hp.stp.form (by omega)
  have hob : stops.ownBlock = some gs := by rw [hse]; rfl
  have k0 : w.cell? ⟨Sx, 0, none⟩ = some (.pointer (some ⟨P, 0, none⟩)) := cell_of hs 0 _ rfl
  have k3 : w.cell? ⟨Sx, 3, none⟩ = some (.bool ev) := cell_of hs 3 _ rfl
  have k6 : w.cell? ⟨P, 6, none⟩ = some (.slice (some ⟨gs, 0, none⟩) 1 cs) := by rw [← hse]; exact cell_of hp.blk 6 _ rfl
  have s0 : w.cell? ⟨gs, 0, none⟩ = some (.slice none 0 0) := own_cell hp.stp hob 0 _ rfl
  have s1 : w.cell? ⟨gs, 1, none⟩ = some (.bool false) := own_cell hp.stp hob 1 _ rfl
  have s2 : w.cell? ⟨gs, 2, none⟩ = some (.bool false) := own_cell hp.stp hob 2 _ rfl
  clear hs hp
  obtain ⟨wA, HWA⟩ : ∃ wA, Hid (wA = w.alloc (.cells #[.slice none 0 0, .bool false, .bool false] 209)) := ⟨_, rfl⟩
  have hwA := HWA.out.symm
  have HGA : Hid (w.grownBy wA none) := by rw [HWA.out]; exact fr_alloc _ _ _
  have p0 : wA.heap[w.heap.size]? = some (.cells #[.slice none 0 0, .bool false, .bool false] 209 (0, 0)) := by rw [HWA.out]; exact heap_alloc_new _ _
  have c1 : wA.cell? ⟨w.heap.size, 1, none⟩ = some (.bool false) := cell_of p0 1 _ rfl
  have c2 : wA.cell? ⟨w.heap.size, 2, none⟩ = some (.bool false) := cell_of p0 2 _ rfl
  have a3 := (FrS.none (S := fun _ => False) HGA.out).cell k3 (fun h => h)
  have c0 : wA.cell? ⟨w.heap.size, 0, none⟩ = some (.slice none 0 0) := cell_of p0 0 _ rfl
  have t0 := thaw_of p0 0
  have t1 := thaw_of p0 1
  have t2 := thaw_of p0 2
  have z0 := setCell_same (j := 0) (v := .slice none 0 0) p0 rfl
  have z1 := setCell_same (j := 1) (v := .bool false) p0 rfl
  have z2 := setCell_same (j := 2) (v := .bool false) p0 rfl
  clear p0
  cases ev <;> skip
  all_goals
   go_enter Tryz.func148, Tryz.ntmps148
   go_wp2
   go_ret
   exact ⟨rfl, HGA.out⟩
set_option maxHeartbeats 2000000 in
theorem marked_no (B Sx P S R n : Nat) (parts given stops vt wv mk : Value) (ev : Bool) (w : World) (hs : w.heap[Sx]? = some (.cells (searchC P wv ev mk) 159 (0, 0))) (hp : Planned B P S R n parts given stops vt w) :
    Calls Tryz.prog 109 #[.pointer (some ⟨Sx, 0, none⟩), .int .i64 0] w fun e w' => e = .returned (.bool false) ∧ w.grownBy w' none := by
  have HF := hide (forgetful_no B Sx P S R n parts given stops vt wv mk ev w hs hp)
  clear hs hp
  go_enter Tryz.func109, Tryz.ntmps109
  go_wp2_with fail
  refine HF.out.mono ?_
  rintro _ w1 ⟨rfl, hg⟩
  have HG := hide hg
  clear hg
  go_wp2
  go_ret
  exact ⟨rfl, HG.out⟩
set_option maxHeartbeats 2000000 in
theorem mark_no (B Sx P S R n : Nat) (parts given stops vt wv mk : Value) (ev : Bool) (w : World) (hs : w.heap[Sx]? = some (.cells (searchC P wv ev mk) 159 (0, 0))) (hp : Planned B P S R n parts given stops vt w) :
    Calls Tryz.prog 111 #[.pointer (some ⟨Sx, 0, none⟩), .int .i64 0] w fun e w' => e = .returned (.tuple #[]) ∧ w.grownBy w' none := by
  have HF := hide (forgetful_no B Sx P S R n parts given stops vt wv mk ev w hs hp)
  clear hs hp
  go_enter Tryz.func111, Tryz.ntmps111
  go_wp2_with fail
  refine HF.out.mono ?_
  rintro _ w1 ⟨rfl, hg⟩
  have HG := hide hg
  clear hg
  go_wp2
  refine bodyPost_ret (results_none rfl _ _ _) rfl ⟨rfl, HG.out⟩
end Go.Proofs.YtdfbjnachakkhaaGreatDoor

namespace Go.Proofs.YtdfbjnachakkhaaGreatDoor
open Go.ChangeShapes Go.WideShapes Go.ChangeAt Go.RowKit Go.Hands Go.WideMaps Go.Maps
set_option linter.unusedVariables false
set_option maxRecDepth 100000
attribute [local go_sem] Oper.semAt_some
/-- what one who gets the rows of an answer may write -/
def isTxt (o : Obj) : Prop := ∃ cur t fz, o = .cells cur t fz ∧ (t = 28 ∨ t = 22)
theorem isTxt_cells {cur : Array Value} {t : TypeId} {fz : Nat × Nat} (h : isTxt (.cells cur t fz)) : t = 28 ∨ t = 22 := by
  obtain ⟨c, t', f, e, h⟩ := h
  cases e; exact h
theorem isTxt.out {o : Obj} (h : isTxt o) : isOut o := by
  obtain ⟨c, t, f, rfl, h⟩ := h
  exact ⟨c, t, f, rfl, .inr h⟩
theorem isTxt_rec {o : Obj} (h : isTxt o) : ¬ isRec o := by
  obtain ⟨c, t, f, rfl, h⟩ := h
  exact fun e => e
theorem isOut_rec {o : Obj} (h : isOut o) : ¬ isRec o := by
  obtain ⟨c, t, f, rfl, h⟩ := h
  exact fun e => e
def isBox (o : Obj) : Prop := ∃ cur, o = .cells cur 4 (0, 0)
/-- what the rounds look at -/
structure WaysB (B yb l b Sx P S R n : Nat) (parts given stops wv vt mk : Value) (ev : Bool) (w : World) : Prop where
  y : w.heap[yb]? = some (.cells #[.func (.yield l) #[] #[]] 213 (0, 0))
  c : WaysC b Sx 0 1 w
  s : w.heap[Sx]? = some (.cells (searchC P wv ev mk) 159 (0, 0))
  p : Planned B P S R n parts given stops vt w
/-- where that lies -/
def Looks (yb b Sx P : Nat) (parts stops vt : Value) (k : Nat) : Prop := k = yb ∨ k = b ∨ k = b + 1 ∨ k = b + 1 + 1 ∨ k = Sx ∨ k = P ∨ parts.ownBlock = some k ∨ vt.ownBlock = some k ∨ stops.ownBlock = some k
theorem WaysB.kept {B yb l b Sx P S R n : Nat} {parts given stops wv vt mk : Value} {ev : Bool} {A C : World} (h : WaysB B yb l b Sx P S R n parts given stops wv vt mk ev A) {Z : Nat → Obj → Prop} (hf : FrT Z A C)
    (hz : ∀ k cur t fz, A.heap[k]? = some (.cells cur t fz) → Looks yb b Sx P parts stops vt k → t ≠ 4 → t ≠ 28 → t ≠ 22 → ¬ Z k (.cells cur t fz)) : WaysB B yb l b Sx P S R n parts given stops wv vt mk ev C := by
  have hk : ∀ k cur t fz, A.heap[k]? = some (.cells cur t fz) → Looks yb b Sx P parts stops vt k → t ≠ 4 → t ≠ 28 → t ≠ 22 → C.heap[k]? = some (.cells cur t fz) := fun k cur t fz h0 h1 h2 h3 h4 => hf.block k _ h0 (hz k cur t fz h0 h1 h2 h3 h4)
  have hr : ∀ {base : Nat} {e : TypeId} {size : Nat} {v : Value} {m : Nat} {xs : List Value}, A.ownsRow base e size v m xs → (∀ k, v.ownBlock = some k → Looks yb b Sx P parts stops vt k) → e ≠ 4 → e ≠ 28 → e ≠ 22 → C.ownsRow base e size v m xs :=
    fun h0 hl h1 h2 h3 => row_kept h0 (fun g cur fz hv hg => (hk g cur _ fz hg (hl g hv) h1 h2 h3).trans hg.symm)
  refine ⟨hk _ _ _ _ h.y (.inl rfl) (by decide) (by decide) (by decide), ⟨hk _ _ _ _ h.c.c1 (.inr (.inl rfl)) (by decide) (by decide) (by decide), hk _ _ _ _ h.c.c2 (.inr (.inr (.inl rfl))) (by decide) (by decide) (by decide), hk _ _ _ _ h.c.c3 (.inr (.inr (.inr (.inl rfl)))) (by decide) (by decide) (by decide)⟩, hk _ _ _ _ h.s (.inr (.inr (.inr (.inr (.inl rfl))))) (by decide) (by decide) (by decide), ⟨hk _ _ _ _ h.p.blk (.inr (.inr (.inr (.inr (.inr (.inl rfl)))))) (by decide) (by decide) (by decide), hr h.p.prt (fun k e => .inr (.inr (.inr (.inr (.inr (.inr (.inl e))))))) (by decide) (by decide) (by decide), hr h.p.trm (fun k e => .inr (.inr (.inr (.inr (.inr (.inr (.inr (.inl e)))))))) (by decide) (by decide) (by decide), hr h.p.stp (fun k e => .inr (.inr (.inr (.inr (.inr (.inr (.inr (.inr e)))))))) (by decide) (by decide) (by decide), h.p.low⟩⟩
theorem WaysB.grown {B yb l b Sx P S R n : Nat} {parts given stops wv vt mk : Value} {ev : Bool} {A C : World} (h : WaysB B yb l b Sx P S R n parts given stops wv vt mk ev A) (hf : A.grownBy C none) : WaysB B yb l b Sx P S R n parts given stops wv vt mk ev C :=
  h.kept (FrT.none (Z := fun _ _ => False) hf) (fun _ _ _ _ _ _ _ _ _ e => e)
theorem WaysB.out {B yb l b Sx P S R n : Nat} {parts given stops wv vt mk : Value} {ev : Bool} {A C : World} (h : WaysB B yb l b Sx P S R n parts given stops wv vt mk ev A) (hf : FrT (fun _ o => isTxt o) A C) : WaysB B yb l b Sx P S R n parts given stops wv vt mk ev C :=
  h.kept hf (fun k cur t fz _ _ _ n2 n3 e => by
    rcases isTxt_cells e with e | e
    · exact n2 e
    · exact n3 e)
/-- what the rounds start from -/
structure WaysI (B yb l b Sx P S R n Bs ix gw : Nat) (parts given stops wv vt mk : Value) (W w : World) : Prop where
  b : WaysB B yb l b Sx P S R n parts given stops wv vt mk true w
  s : ∃ bv, w.heap[Bs]? = some (.cells #[.bool bv] 4 (0, 0))
  f : FrT (fun k o => Zi isBox (fun k o => k = ix ∨ (k = gw ∧ isInt o)) W.heap.size k o ∨ isTxt o) W w
set_option maxHeartbeats 4000000 in
theorem ways_hands (N B Bw base R ix im n gw b Sx P S : Nat) (rows : List (List Nat)) (old : Nat) (vr vu wv vt mk parts given stops : Value) (w0 w : World) (h : RelX base R ix im n rows old rows.length w0 vr vu) (hn : n ≤ 8) (hrl : rows.length ≤ 1000000) (hgw : w0.heap.size ≤ gw) (hbw : base ≤ w0.heap.size) (hw0 : FrT (Zc0 gw) w0 w)
    (hC : WaysC b Sx 0 1 w) (hS : w.heap[Sx]? = some (.cells (searchC P wv true mk) 159 (0, 0))) (hP : Planned B P S R n parts given stops vt w) (hW : w.ownsRow Bw 3 1 wv n (noneV n)) (hgi : ∃ cur, w.heap[gw]? = some (.cells cur 3 (0, 0))) (hbg : b ≠ gw ∧ b + 1 ≠ gw ∧ b + 1 + 1 ≠ gw ∧ Sx ≠ gw ∧ P ≠ gw) (hvt : ∀ q, vt.ownBlock = some q → q ≠ gw) (hpg : ∀ q, parts.ownBlock = some q → q ≠ gw) (hsg : ∀ q, stops.ownBlock = some q → q ≠ gw) (hwv : ∀ q, wv.ownBlock = some q → q = gw) (hN : 8 ≤ N) :
    HandsZ N Tryz.prog 108 #[.pointer (some ⟨b + 1, 0, none⟩), .pointer (some ⟨b + 1 + 1, 0, none⟩), .pointer (some ⟨b, 0, none⟩)] (fun x : List Nat => #[wv]) (fun x W => W.ownsRow Bw 3 1 wv n (numV (x.take n))) isBox (fun k o => k = ix ∨ (k = gw ∧ isInt o)) (fun _ o => isTxt o) rows w := by
  intro l J W hWW hJ hY h0
  have hZ0 : FrT (Zc0 gw) w W := hWW.mono (fun _ _ _ h => .inr h.out)
  have HH0 := hide (And.intro h (hw0.trans hZ0))
  have HRX := hide (h.out (hw0.trans hZ0) hgw)
  have hWY := frt_row hWW hW (fun g cur fz _ _ => fun e => by rcases isTxt_cells e with e | e <;> cases e)
  obtain ⟨es, ck, hixe⟩ : ∃ es ck, W.heap[ix]? = some (.map es ck) := by
    rcases HRX.out with ⟨_, _, _, _, _, h6, _⟩ | ⟨DM, vf, h⟩
    · obtain ⟨es, ck, hq, _⟩ := h6; exact ⟨es, ck, hq⟩
    · obtain ⟨es, ck, hq, _⟩ := h.ixm; exact ⟨es, ck, hq⟩
  have hixl : ix < W.heap.size := lt_of_heap hixe
  obtain ⟨gcur, hgc⟩ := hgi
  have HGI : Hid (W.heap[gw]? = some (.cells gcur 3 (0, 0))) := hWW.block _ _ hgc (fun e => by rcases isTxt_cells e with e | e <;> cases e)
  have hgW : gw < W.heap.size := lt_of_heap HGI.out
  have HJ := hide hJ
  have HY := hide hY
  obtain ⟨wY, HWY⟩ : ∃ wY, Hid (wY = W.alloc (.cells #[.func (.yield l) #[] #[]] 213)) := ⟨_, rfl⟩
  have hwY := HWY.out.symm
  have HGY : Hid (W.grownBy wY none) := by rw [HWY.out]; exact fr_alloc _ _ _
  have HBX : Hid (WaysB B W.heap.size l b Sx P S R n parts given stops wv vt mk true wY) := by
    have ht : FrT (fun _ o => isTxt o) w wY := hWW.trans (FrT.none HGY.out)
    have hk : ∀ (k : Nat) (cur : Array Value) (t : TypeId), w.heap[k]? = some (.cells cur t (0, 0)) → t ≠ 28 → t ≠ 22 → wY.heap[k]? = some (.cells cur t (0, 0)) := by
      intro k cur t hk n2 n3
      refine ht.block k _ hk (fun e => ?_)
      rcases isTxt_cells e with e | e
      · exact n2 e
      · exact n3 e
    have hr : ∀ {base : Nat} {e : TypeId} {size : Nat} {v : Value} {m : Nat} {xs : List Value}, w.ownsRow base e size v m xs → e ≠ 28 → e ≠ 22 → wY.ownsRow base e size v m xs :=
      fun h0 n2 n3 => frt_row ht h0 (fun g cur fz _ _ => fun e => by
        rcases isTxt_cells e with e | e
        · exact n2 e
        · exact n3 e)
    exact ⟨by rw [HWY.out]; exact heap_alloc_new _ _, ⟨hk _ _ _ hC.c1 (by decide) (by decide), hk _ _ _ hC.c2 (by decide) (by decide), hk _ _ _ hC.c3 (by decide) (by decide)⟩, hk _ _ _ hS (by decide) (by decide), ⟨hk _ _ _ hP.blk (by decide) (by decide), hr hP.prt (by decide) (by decide), hr hP.trm (by decide) (by decide), hr hP.stp (by decide) (by decide), hP.low⟩⟩
  have HNE : Hid (∀ k, Looks W.heap.size b Sx P parts stops vt k → k ≠ ix ∧ k ≠ gw) := by
    intro k hl
    have hnx : ∀ k cur t, wY.heap[k]? = some (.cells cur t (0, 0)) → k ≠ ix := by
      rintro k cur t hk rfl
      rw [(HGY.out.block _ hixl (by simp)).trans hixe] at hk; cases hk
    obtain ⟨g1, g2, g3, g4, g5⟩ := hbg
    have hB := HBX.out
    rcases hl with rfl | rfl | rfl | rfl | rfl | rfl | e | e | e
    · exact ⟨by omega, by omega⟩
    · exact ⟨hnx _ _ _ hB.c.c1, g1⟩
    · exact ⟨hnx _ _ _ hB.c.c2, g2⟩
    · exact ⟨hnx _ _ _ hB.c.c3, g3⟩
    · exact ⟨hnx _ _ _ hB.s, g4⟩
    · exact ⟨hnx _ _ _ hB.p.blk, g5⟩
    · obtain ⟨cur, h1⟩ := own_type hB.p.prt e
      exact ⟨hnx _ _ _ h1, hpg k e⟩
    · obtain ⟨cur, h1⟩ := own_type hB.p.trm e
      exact ⟨hnx _ _ _ h1, hvt k e⟩
    · obtain ⟨cur, h1⟩ := own_type hB.p.stp e
      exact ⟨hnx _ _ _ h1, hsg k e⟩
  have HWN : Hid (wY.ownsRow Bw 3 1 wv n (noneV n)) := hWY.kept HGY.out (by cases wv.ownBlock <;> simp)
  have H0 : Hid (J 0 wY) := HJ.out _ _ _ h0 (FrT.none HGY.out)
  have HMK : Hid (Calls Tryz.prog 109 #[.pointer (some ⟨Sx, 0, none⟩), .int .i64 0] wY fun e w' => e = .returned (.bool false) ∧ wY.grownBy w' none) := marked_no B Sx P S R n parts given stops vt wv mk true wY HBX.out.s HBX.out.p
  have k1 : wY.cell? ⟨b, 0, none⟩ = some (.pointer (some ⟨Sx, 0, none⟩)) := cell_of HBX.out.c.c1 0 _ rfl
  have k2 : wY.cell? ⟨b + 1, 0, none⟩ = some (.int .i64 0) := cell_of HBX.out.c.c2 0 _ rfl
  have k3 : wY.cell? ⟨b + 1 + 1, 0, none⟩ = some (.int .i64 1) := cell_of HBX.out.c.c3 0 _ rfl
  clear hJ hY h0 hC h hw0 hWW hWY hW hS hZ0 hixe hP
  refine callsIn_of_wp_marks Tryz.func108 rfl trivial ?_ rfl
  simp only [Tryz.ntmps108, List.size_toArray, List.length_cons, List.length_nil, Nat.reduceAdd, Nat.reduceSub, Array.replicate_succ, Array.replicate_zero, List.push_toArray, List.append_toArray, List.nil_append, List.cons_append]
  gi_wp2_with fail
  refine ⟨trivial, fun h => (by cases h), ?_⟩
  refine (callsIn_wide.2 HMK.out).mono ?_
  rintro e w2 ⟨rfl, hg2⟩
  have HG2 := hide hg2
  obtain ⟨wS, HWS⟩ : ∃ wS, Hid (wS = w2.alloc (.cells #[.bool false] 4)) := ⟨_, rfl⟩
  have hwS := HWS.out.symm
  have HGS : Hid (w2.grownBy wS none) := by rw [HWS.out]; exact fr_alloc _ _ _
  have HGYS : Hid (wY.grownBy wS none) := fr_both hg2 HGS.out
  have HBS : Hid (WaysB B W.heap.size l b Sx P S R n parts given stops wv vt mk true wS) := HBX.out.grown HGYS.out
  have HSS : Hid (wS.heap[w2.heap.size]? = some (.cells #[.bool false] 4 (0, 0))) := by rw [HWS.out]; exact heap_alloc_new _ _
  clear hg2 HMK k1 k2 k3
  obtain ⟨gp, cp, hpe, _, hcp⟩ := HBS.out.p.prt.form (by omega)
  obtain ⟨va, vc, hve⟩ := own_form HBS.out.p.trm
  have hob : parts.ownBlock = some gp := by rw [hpe]; rfl
  have k0 : wS.cell? ⟨b, 0, none⟩ = some (.pointer (some ⟨Sx, 0, none⟩)) := cell_of HBS.out.c.c1 0 _ rfl
  have k1 : wS.cell? ⟨b + 1, 0, none⟩ = some (.int .i64 0) := cell_of HBS.out.c.c2 0 _ rfl
  have k2 : wS.cell? ⟨Sx, 0, none⟩ = some (.pointer (some ⟨P, 0, none⟩)) := cell_of HBS.out.s 0 _ rfl
  have k3 : wS.cell? ⟨P, 2, none⟩ = some (.slice (some ⟨gp, 0, none⟩) 1 cp) := by rw [← hpe]; exact cell_of HBS.out.p.blk 2 _ rfl
  have s0 : wS.cell? ⟨gp, 0, none⟩ = some (.int .i64 0) := own_cell HBS.out.p.prt hob 0 _ rfl
  have s1 : wS.cell? ⟨gp, 1, none⟩ = some (.int .i64 0) := own_cell HBS.out.p.prt hob 1 _ rfl
  have s2 : wS.cell? ⟨gp, 2, none⟩ = some (.pointer (some ⟨R, 0, none⟩)) := own_cell HBS.out.p.prt hob 2 _ rfl
  have s3 : wS.cell? ⟨gp, 3, none⟩ = some (.slice va n vc) := by rw [← hve]; exact own_cell HBS.out.p.prt hob 3 _ rfl
  have b0 : wS.cell? ⟨w2.heap.size, 0, none⟩ = some (.bool false) := cell_of HSS.out 0 _ rfl
  have b1 := thaw_of HSS.out 0
  have b2 := setCell_same (j := 0) (v := .bool false) HSS.out rfl
  have HHO : Hid (∀ W, (∃ k, W = wS.drewN k) → Calls Tryz.prog 110 #[.pointer (some ⟨Sx, 0, none⟩), .agg #[.int .i64 0, .int .i64 0, .pointer (some ⟨R, 0, none⟩), .slice va n vc]] W fun e w' => ∃ hb, e = .returned (.func (.func 150) #[] #[.pointer (some ⟨hb, 0, none⟩), .pointer (some ⟨hb + 1, 0, none⟩)]) ∧ Hid (HoldsC hb Sx R vt w' ∧ wS.heap.size ≤ hb ∧ wS.grownBy w' none) ∧ w'.cell? ⟨b, 0, none⟩ = some (.pointer (some ⟨Sx, 0, none⟩)) ∧ w'.cell? ⟨b + 1, 0, none⟩ = some (.int .i64 0) ∧ w'.cell? ⟨Sx, 0, none⟩ = some (.pointer (some ⟨P, 0, none⟩)) ∧ w'.cell? ⟨P, 2, none⟩ = some (.slice (some ⟨gp, 0, none⟩) 1 cp) ∧ w'.cell? ⟨gp, 0, none⟩ = some (.int .i64 0) ∧ w'.cell? ⟨gp, 1, none⟩ = some (.int .i64 0) ∧ w'.cell? ⟨gp, 2, none⟩ = some (.pointer (some ⟨R, 0, none⟩)) ∧ w'.cell? ⟨gp, 3, none⟩ = some (.slice va n vc)) := by
    rintro Wd ⟨k, rfl⟩
    have hd := fr_draws wS k none
    rw [← hve]
    refine (holds_any Sx R vt (wS.drewN k)).mono ?_
    rintro e w' ⟨rfl, hc, hg⟩
    have hgg := fr_both hd hg
    have hf := FrS.none (S := fun _ => False) hgg
    rw [hve] at hc ⊢
    exact ⟨_, rfl, ⟨hc, hd.size, hgg⟩, hf.cell k0 (fun h => h), hf.cell k1 (fun h => h), hf.cell k2 (fun h => h), hf.cell k3 (fun h => h), hf.cell s0 (fun h => h), hf.cell s1 (fun h => h), hf.cell s2 (fun h => h), hf.cell s3 (fun h => h)⟩
  gi_wp2_with fail
  refine wpIn_wide.2 ?_
  go_region_held3 (fun w' => w'.cell? ⟨b, 0, none⟩ = some (.pointer (some ⟨Sx, 0, none⟩)) ∧ w'.cell? ⟨b + 1, 0, none⟩ = some (.int .i64 0) ∧ w'.cell? ⟨Sx, 0, none⟩ = some (.pointer (some ⟨P, 0, none⟩)) ∧ w'.cell? ⟨P, 2, none⟩ = some (.slice (some ⟨gp, 0, none⟩) 1 cp) ∧ w'.cell? ⟨gp, 0, none⟩ = some (.int .i64 0) ∧ w'.cell? ⟨gp, 1, none⟩ = some (.int .i64 0) ∧ w'.cell? ⟨gp, 2, none⟩ = some (.pointer (some ⟨R, 0, none⟩)) ∧ w'.cell? ⟨gp, 3, none⟩ = some (.slice va n vc)) (go_keep)
    (first
      | (go_at_call 110; refine (HHO.out _ ⟨_, rfl⟩).mono ?_; rintro e w3 ⟨hb, rfl, HH3, j0, j1, j2, j3, j4, j5, j6, j7⟩))
  have HG3 : Hid (wS.grownBy w3 none) := HH3.out.2.2
  have HGW3 : Hid (W.grownBy w3 none) := fr_both HGY.out (fr_both HGYS.out HG3.out)
  have HC3 : Hid (HoldsC hb Sx R vt w3) := HH3.out.1
  have HB3 : Hid (WaysB B W.heap.size l b Sx P S R n parts given stops wv vt mk true w3) := HBS.out.grown HG3.out
  have HW3 : Hid (w3.ownsRow Bw 3 1 wv n (noneV n)) := HWN.out.kept (fr_both HGYS.out HG3.out) (by cases wv.ownBlock <;> simp)
  have HJ3 : Hid (J 0 w3) := HJ.out _ _ _ H0.out (FrT.none (fr_both HGYS.out HG3.out))
  have HS3 : Hid (w3.heap[w2.heap.size]? = some (.cells #[.bool false] 4 (0, 0))) := (HG3.out.block _ (lt_of_heap HSS.out) (by simp)).trans HSS.out
  have HI3 : Hid (WaysI B W.heap.size l b Sx P S R n w2.heap.size ix gw parts given stops wv vt mk W w3) := ⟨HB3.out, ⟨_, HS3.out⟩, FrT.none HGW3.out⟩
  have hsY : W.heap.size < wY.heap.size := by rw [HWY.out]; simp
  have hs2 : wY.heap.size ≤ w2.heap.size := HG2.out.size
  have hsS : w2.heap.size < wS.heap.size := by rw [HWS.out]; simp
  have hhb : wS.heap.size ≤ hb := HH3.out.2.1
  have hs3 : wS.heap.size ≤ w3.heap.size := HG3.out.size
  clear j0 j1 j2 j3 j4 j5 j6 j7 k0 k1 k2 k3 s0 s1 s2 s3 b0 b1 b2 HH3 HHO
  gi_wp2_with fail
  refine rangeZ (by omega) (gf := 150) (lb := #[.pointer (some ⟨hb, 0, none⟩), .pointer (some ⟨hb + 1, 0, none⟩)]) rfl (enters_of Tryz.func150 (by kernel_rfl) rfl)
    (holds_hands (N - 1) B Bw base R ix im n gw hb Sx P rows old vr vu wv vt mk true w0 w3 HH0.out.1 hn hrl hgw hbw (HH0.out.2.trans (FrT.none HGW3.out)) HC3.out HB3.out.s HB3.out.p.trm HW3.out ⟨_, (HGW3.out.block _ hgW (by simp)).trans HGI.out⟩ ⟨by omega, by omega, hbg.2.2.2.1⟩ hvt hwv (by omega))
    (FrT.refl _ _) (fun k o h => ?own) (fun k o h => isOut_rec h) (fun _ => rfl)
    (fun i W' => Hid (J i W') ∧ Hid (WaysI B W.heap.size l b Sx P S R n w2.heap.size ix gw parts given stops wv vt mk W W'))
    ?low ⟨HJ3, HI3⟩ (fun x A C h hf => frt_row hf h (fun g cur fz _ _ e => e))
    (fun x a' W' => a' = { tmps := #[.func (.yield l) #[] #[], .pointer (some ⟨b + 1, 0, none⟩), .pointer (some ⟨b + 1 + 1, 0, none⟩), .pointer (some ⟨b, 0, none⟩), .pointer (some ⟨W.heap.size, 0, none⟩), .pointer (some ⟨w2.heap.size, 0, none⟩), undef, .int .i64 0, .int .i64 1, .bool false, undef, undef, undef, undef, undef, undef, .pointer (some ⟨Sx, 0, none⟩), .int .i64 0, .bool false, .pointer (some ⟨Sx, 0, none⟩), .pointer (some ⟨Sx, 0, none⟩), .pointer (some ⟨Sx, 0, none⟩), .pointer (some ⟨Sx, 0, none⟩), .pointer (some ⟨P, 0, none⟩), .pointer (some ⟨P, 0, none⟩), .pointer (some ⟨P, 2, none⟩), .slice (some ⟨gp, 0, none⟩) 1 cp, .int .i64 0, .pointer (some ⟨gp, 0, none⟩), .agg #[.int .i64 0, .int .i64 0, .pointer (some ⟨R, 0, none⟩), .slice va n vc], .func (.func 150) #[] #[.pointer (some ⟨hb, 0, none⟩), .pointer (some ⟨hb + 1, 0, none⟩)], undef, undef, undef, undef, undef, undef, undef, undef, undef, undef, undef, undef, undef, undef, undef, undef, undef, undef, undef, undef, undef, undef], defers := [] })
    (fun _ _ _ _ h _ => h) ?assign ?body ?done
  case own =>
    rcases h with h | h
    · have h' : k = ix := h; omega
    · have h' : k = gw := h.1; omega
  case low =>
    rintro i A C ⟨hj, hi⟩ hf
    have hz : ∀ k o, Zi (fun _ => False) (fun k o => k = ix ∨ (k = gw ∧ isInt o)) w3.heap.size k o → Zi isBox (fun k o => k = ix ∨ (k = gw ∧ isInt o)) W.heap.size k o := fun k o h => h.imp id (fun h => ⟨by omega, h.2.imp id (fun e => e.elim)⟩)
    refine ⟨HJ.out _ _ _ hj.out (hf.mono (fun k o _ h => hz k o h)), ⟨hi.out.b.kept hf ?_, ?_, hi.out.f.trans (hf.mono (fun k o _ h => .inl (hz k o h)))⟩⟩
    · rintro k cur t fz hk hl n1 n2 n3 (h | ⟨_, h | h⟩)
      · rcases h with h | h
        · exact (HNE.out k hl).1 h
        · exact (HNE.out k hl).2 h.1
      · exact h
      · exact h
    · obtain ⟨bv, hbv⟩ := hi.out.s
      refine ⟨bv, hf.block _ _ hbv ?_⟩
      rintro (h | ⟨_, h | h⟩)
      · rcases h with h | h
        · have h' : w2.heap.size = ix := h; omega
        · have h' : w2.heap.size = gw := h.1; omega
      · exact h
      · exact h
  case assign =>
    rintro l' i x W' K hx _ _ hK
    have HK := hide hK
    clear hK
    gi_wp2
    exact HK.out _ _ (FrT.refl _ _) rfl
  case body =>
    rintro l' i x a' W1 hx ⟨HJ1, HI1⟩ hf1 rfl hl'
    have HX := hide hx
    have HF1 := hide hf1
    clear hx hf1
    have k0 : W1.cell? ⟨b, 0, none⟩ = some (.pointer (some ⟨Sx, 0, none⟩)) := cell_of HI1.out.b.c.c1 0 _ rfl
    have k1 : W1.cell? ⟨b + 1, 0, none⟩ = some (.int .i64 0) := cell_of HI1.out.b.c.c2 0 _ rfl
    have k2 : W1.cell? ⟨b + 1 + 1, 0, none⟩ = some (.int .i64 1) := cell_of HI1.out.b.c.c3 0 _ rfl
    have HSW : Hid (Calls Tryz.prog 71 #[.pointer (some ⟨Sx, 0, none⟩), .int .i64 1, .int .i64 1] W1 fun e w' => e = .returned (.func (.func 108) #[] #[.pointer (some ⟨W1.heap.size + 1, 0, none⟩), .pointer (some ⟨W1.heap.size + 1 + 1, 0, none⟩), .pointer (some ⟨W1.heap.size, 0, none⟩)]) ∧ WaysC W1.heap.size Sx 1 1 w' ∧ W1.grownBy w' none) := sways_any Sx 1 1 W1
    gi_wp2_with fail
    refine ⟨trivial, fun h => (by cases h), CallsIn.mono (CallsIn.inRound l' (callsIn_wide.2 HSW.out)) ?_⟩
    rintro e w6 ⟨rfl, hC6, hg6⟩
    have HC6 := hide hC6
    have HG6 := hide hg6
    have HB6 : Hid (WaysB B W.heap.size l b Sx P S R n parts given stops wv vt mk true w6) := HI1.out.b.grown hg6
    have HJ6 : Hid (J i w6) := HJ.out _ _ _ HJ1.out (FrT.none hg6)
    have HF6 : Hid (w6.ownsRow Bw 3 1 wv n (numV (x.take n))) := HF1.out.kept hg6 (by cases wv.ownBlock <;> simp)
    obtain ⟨r1, hl1⟩ := hl'
    have hl6 : w6.heap[l']? = some (.loop r1) := (hg6.block _ (lt_of_heap hl1) (by simp)).trans hl1
    have HI6 : Hid (WaysI B W.heap.size l b Sx P S R n w2.heap.size ix gw parts given stops wv vt mk W w6) := ⟨HB6.out, by obtain ⟨bv, hbv⟩ := HI1.out.s; exact ⟨bv, (hg6.block _ (lt_of_heap hbv) (by simp)).trans hbv⟩, HI1.out.f.trans (FrT.none hg6)⟩
    have hW6 : W.heap.size ≤ w6.heap.size := HI6.out.f.size
    clear hC6 hg6 k0 k1 k2 HSW
    gi_wp2_with fail
    refine rangeZ_in hl6 (by omega) (gf := 108) (lb := #[.pointer (some ⟨W1.heap.size + 1, 0, none⟩), .pointer (some ⟨W1.heap.size + 1 + 1, 0, none⟩), .pointer (some ⟨W1.heap.size, 0, none⟩)]) rfl (enters_of Tryz.func108 (by kernel_rfl) rfl)
      (ways_all (N - 1 - 1 - 1) Sx P W1.heap.size 1 wv mk true (fun _ o => isOut o) w6 HC6.out HB6.out.s (by omega) (fun o ho h => ?z1) (fun o ho h => ?z2) (fun o ho h => ?z3) (fun o ho h => ?z4))
      (FrT.refl _ _) (fun k o h => h.elim) (fun k o h => isOut_rec h) (fun _ => rfl)
      (fun j W' => Hid (J (i + j) W') ∧ Hid (WaysI B W.heap.size l b Sx P S R n w2.heap.size ix gw parts given stops wv vt mk W W') ∧ Hid (W'.ownsRow Bw 3 1 wv n (numV (x.take n))))
      ?low2 ⟨HJ6, HI6, HF6⟩ (fun _ _ _ _ _ => trivial)
      (fun _ a' W' => a' = { tmps := #[.func (.yield l) #[] #[], .pointer (some ⟨b + 1, 0, none⟩), .pointer (some ⟨b + 1 + 1, 0, none⟩), .pointer (some ⟨b, 0, none⟩), .pointer (some ⟨W.heap.size, 0, none⟩), .pointer (some ⟨w2.heap.size, 0, none⟩), wv, .int .i64 0, .int .i64 1, .bool false, undef, undef, undef, undef, undef, undef, .pointer (some ⟨Sx, 0, none⟩), .int .i64 0, .bool false, .pointer (some ⟨Sx, 0, none⟩), .pointer (some ⟨Sx, 0, none⟩), .pointer (some ⟨Sx, 0, none⟩), .pointer (some ⟨Sx, 0, none⟩), .pointer (some ⟨P, 0, none⟩), .pointer (some ⟨P, 0, none⟩), .pointer (some ⟨P, 2, none⟩), .slice (some ⟨gp, 0, none⟩) 1 cp, .int .i64 0, .pointer (some ⟨gp, 0, none⟩), .agg #[.int .i64 0, .int .i64 0, .pointer (some ⟨R, 0, none⟩), .slice va n vc], .func (.func 150) #[] #[.pointer (some ⟨hb, 0, none⟩), .pointer (some ⟨hb + 1, 0, none⟩)], .pointer (some ⟨Sx, 0, none⟩), .int .i64 0, .int .i64 1, .int .i64 1, .func (.func 108) #[] #[.pointer (some ⟨W1.heap.size + 1, 0, none⟩), .pointer (some ⟨W1.heap.size + 1 + 1, 0, none⟩), .pointer (some ⟨W1.heap.size, 0, none⟩)], wv, undef, undef, undef, undef, undef, undef, undef, undef, undef, undef, undef, undef, undef, undef, undef, undef], defers := [] }) (fun _ _ _ _ h _ => h) ?assign2 ?body2 ?done2
    case z1 => rw [HC6.out.c1] at ho; cases ho; rcases isOut_cells h with e | e | e <;> cases e
    case z2 => rw [HC6.out.c2] at ho; cases ho; rcases isOut_cells h with e | e | e <;> cases e
    case z3 => rw [HC6.out.c3] at ho; cases ho; rcases isOut_cells h with e | e | e <;> cases e
    case z4 => rw [HB6.out.s] at ho; cases ho; rcases isOut_cells h with e | e | e <;> cases e
    case low2 =>
      rintro j A C ⟨hj, hi, hw⟩ hf
      have hz : ∀ k o, Zi (fun _ => False) (fun _ _ => False) w6.heap.size k o → Zi isBox (fun k o => k = ix ∨ (k = gw ∧ isInt o)) W.heap.size k o := fun k o h => h.elim (fun h => h.elim) (fun h => .inr ⟨by omega, h.2.imp id (fun e => e.elim)⟩)
      have hcel : ∀ (k : Nat) (cur : Array Value) (t : TypeId) (fz : Nat × Nat), A.heap[k]? = some (.cells cur t fz) → C.heap[k]? = some (.cells cur t fz) := fun k cur t fz hk => hf.block k _ hk (by rintro (h | ⟨_, h | h⟩) <;> exact h)
      refine ⟨HJ.out _ _ _ hj.out (hf.mono (fun k o _ h => hz k o h)), ⟨hi.out.b.kept hf (fun k cur t fz _ _ _ _ _ => by rintro (h | ⟨_, h | h⟩) <;> exact h), ?_, hi.out.f.trans (hf.mono (fun k o _ h => .inl (hz k o h)))⟩, row_kept hw.out (fun g cur fz _ hg => (hcel g cur _ fz hg).trans hg.symm)⟩
      obtain ⟨bv, hbv⟩ := hi.out.s
      exact ⟨bv, hcel _ _ _ _ hbv⟩
    case assign2 =>
      rintro l2 j y W' K hx _ _ hK
      have HK := hide hK
      clear hK
      gi_wp2
      exact HK.out _ _ (FrT.refl _ _) rfl
    case body2 =>
      rintro l2 j y a' W7 hy ⟨HJ7, HI7, HF7⟩ _ rfl hl2
      obtain rfl : j = 0 := by
        have := (List.getElem?_eq_some_iff.1 hy).1
        simp at this; exact this
      obtain ⟨bv, hbv⟩ := HI7.out.s
      have c0 : W7.cell? ⟨w2.heap.size, 0, none⟩ = some (.bool bv) := cell_of hbv 0 _ rfl
      have c1 := thaw_of hbv 0
      obtain ⟨w8, HW8⟩ : ∃ w8, Hid (w8 = W7.setCell ⟨w2.heap.size, 0, none⟩ (.bool true)) := ⟨_, rfl⟩
      have hw8 := HW8.out.symm
      have HS8 : Hid (w8.heap[w2.heap.size]? = some (.cells #[.bool true] 4 (0, 0))) := by rw [HW8.out]; exact blk_set hbv 0 _
      have HT8 : Hid (FrT (fun k o => k = w2.heap.size ∧ isBox o) W7 w8) := by
        rw [HW8.out]
        refine frs_frt (FrS.of (S := fun j => j = w2.heap.size) (fr_set W7 w2.heap.size 0 _) (fun g e => .inl (Option.some.inj e).symm)) (fun k o e ho => ⟨e, ?_⟩)
        have e' : k = w2.heap.size := e
        rw [e', hbv] at ho; cases ho; exact ⟨_, rfl⟩
      have HB8 : Hid (WaysB B W.heap.size l b Sx P S R n parts given stops wv vt mk true w8) := HI7.out.b.kept HT8.out (fun k cur t fz hk _ n1 _ _ h => by
        rw [h.1, hbv] at hk; cases hk; exact n1 rfl)
      have HJ8 : Hid (J i w8) := HJ.out _ _ _ HJ7.out (HT8.out.mono (fun k o _ h => .inr ⟨by rw [h.1]; omega, .inr h.2⟩))
      have HF8 : Hid (w8.ownsRow Bw 3 1 wv n (numV (x.take n))) := frt_row HT8.out HF7.out (fun g cur fz _ _ h => by obtain ⟨_, q, e⟩ := h; cases e)
      have HE8 : Hid (FrT (fun k o => Zi isBox (fun k o => k = ix ∨ (k = gw ∧ isInt o)) W.heap.size k o ∨ isTxt o) W w8) := HI7.out.f.trans (HT8.out.mono (fun k o _ h => .inl (.inr ⟨by rw [h.1]; omega, .inr h.2⟩)))
      have y0 : w8.cell? ⟨W.heap.size, 0, none⟩ = some (.func (.yield l) #[] #[]) := cell_of HB8.out.y 0 _ rfl
      obtain ⟨fn, tmps, assign, body, hyy, hR⟩ := HY.out i x w8 HX.out HJ8.out HF8.out
      have HRR := hide hR
      clear hR hbv
      gi_wp2
      refine ⟨fun h => (by cases h), RoundIn.mono (round_wide HRR.out) ?_⟩
      rintro e W9 ⟨rfl, hJ9, hr9⟩
      have HJ9 : Hid (J (i + (0 + 1)) W9) := by rw [Nat.zero_add]; exact hJ9
      have HR9 := hide hr9
      have HI9 : Hid (WaysI B W.heap.size l b Sx P S R n w2.heap.size ix gw parts given stops wv vt mk W W9) := ⟨HB8.out.out hr9, ⟨true, hr9.block _ _ HS8.out (fun e => by rcases isTxt_cells e with e | e <;> cases e)⟩, HE8.out.trans (hr9.mono (fun _ _ _ h => .inr h))⟩
      have HF9 : Hid (W9.ownsRow Bw 3 1 wv n (numV (x.take n))) := frt_row hr9 HF8.out (fun g cur fz _ _ e => by rcases isTxt_cells e with e | e <;> cases e)
      have HQ9 : Hid (FrT (fun _ o => isOut o) W7 W9) := (HT8.out.mono (fun k o _ h => by obtain ⟨_, q, rfl⟩ := h; exact ⟨_, _, _, rfl, .inl rfl⟩)).trans (hr9.mono (fun _ _ _ h => h.out))
      clear hJ9 hr9 hyy y0 c0 c1
      gi_wp2
      rw [← hpe, ← hve]
      exact ⟨HI9, HQ9.out⟩
    case done2 =>
      rintro W8 ⟨HJ8, HI8, _⟩ hfr
      have HFR : Hid (FrT (fun _ o => isOut o) W1 W8) := (FrT.none HG6.out).trans (hfr.mono (fun k o hk h => h.elim (fun h => h.elim (fun h => h.elim) (fun h => by have := lt_of_heap hk; omega)) id))
      clear hfr
      gi_wp2
      rw [← hpe, ← hve]
      exact ⟨⟨HJ8, HI8⟩, HFR.out⟩
  case done =>
    rintro D W' hD ⟨HJD, HID⟩ hd hfr
    obtain ⟨bv, hbv⟩ := HID.out.s
    have u0 : W'.cell? ⟨w2.heap.size, 0, none⟩ = some (.bool bv) := cell_of hbv 0 _ rfl
    have u1 : W'.cell? ⟨b, 0, none⟩ = some (.pointer (some ⟨Sx, 0, none⟩)) := cell_of HID.out.b.c.c1 0 _ rfl
    have u2 : W'.cell? ⟨Sx, 3, none⟩ = some (.bool true) := cell_of HID.out.b.s 3 _ rfl
    have u3 : W'.cell? ⟨b + 1, 0, none⟩ = some (.int .i64 0) := cell_of HID.out.b.c.c2 0 _ rfl
    have HMK : Hid (Calls Tryz.prog 111 #[.pointer (some ⟨Sx, 0, none⟩), .int .i64 0] W' fun e w' => e = .returned (.tuple #[]) ∧ W'.grownBy w' none) := mark_no B Sx P S R n parts given stops vt wv mk true W' HID.out.b.s HID.out.b.p
    have HDD := hide hd
    clear hd hfr hbv
    cases bv with
    | true =>
      gi_wp2
      refine ⟨by simp, .inl ⟨_, _, rfl, run_takeDeferred HDD.out, ?_⟩⟩
      have hDp : FrT (fun k o => k = D ∧ isRec o) W' (W'.putObj D (.deferred none)) := FrT.put W' D _ (fun o ho => by rw [HDD.out] at ho; cases ho; exact ⟨rfl, trivial⟩)
      refine ⟨_, results_none rfl _ _ _, ⟨_, rfl⟩, HJ.out _ _ _ HJD.out (hDp.mono (fun k o _ h => .inr ⟨by rw [h.1]; omega, .inl h.2⟩)), HID.out.f.trans (hDp.mono (fun k o _ h => .inl (.inr ⟨by rw [h.1]; omega, .inl h.2⟩)))⟩
    | false =>
      gi_wp2_with fail
      refine ⟨trivial, fun h => (by cases h), ?_⟩
      refine (callsIn_wide.2 HMK.out).mono ?_
      rintro e W3 ⟨rfl, hgm⟩
      have HGM := hide hgm
      have HDD3 : Hid (W3.heap[D]? = some (.deferred (some []))) := (hgm.block _ (lt_of_heap HDD.out) (by simp)).trans HDD.out
      clear hgm
      gi_wp2
      refine ⟨by simp, .inl ⟨_, _, rfl, run_takeDeferred HDD3.out, ?_⟩⟩
      have hDp : FrT (fun k o => k = D ∧ isRec o) W3 (W3.putObj D (.deferred none)) := FrT.put W3 D _ (fun o ho => by rw [HDD3.out] at ho; cases ho; exact ⟨rfl, trivial⟩)
      refine ⟨_, results_none rfl _ _ _, ⟨_, rfl⟩, HJ.out _ _ _ (HJ.out _ _ _ HJD.out (FrT.none HGM.out)) (hDp.mono (fun k o _ h => .inr ⟨by rw [h.1]; omega, .inl h.2⟩)), (HID.out.f.trans (FrT.none HGM.out)).trans (hDp.mono (fun k o _ h => .inl (.inr ⟨by rw [h.1]; omega, .inl h.2⟩)))⟩
end Go.Proofs.YtdfbjnachakkhaaGreatDoor
