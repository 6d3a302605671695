import Derived.Test.YtgllfcoafgphbaaGreatDoorM10
import Derived.Test.YtgllfcoafgphbaaGreatDoorM14
/-
  The program's check.first, walked: at atoms.
-/
namespace Go.Proofs.YtgllfcoafgphbaaGreatDoor
open Go.ChangeShapes Go.WideShapes Go.ChangeAt Go.RowKit Go.Hands
set_option linter.unusedVariables false
attribute [local go_sem] Oper.semAt_some
/-- what 'first' answers -/
def firstA (L : List BX) : Value := match L with
  | [] => .tuple #[.agg #[.string ⟨#[]⟩, .slice none 0 0, .int .i64 0], .bool false]
  | x :: _ => .tuple #[x.atomV, .bool true]
theorem set4 {W : World} {b : Nat} {a0 a1 a2 a3 : Value} (h0 : W.cell? ⟨b, 0, none⟩ = some a0) (h1 : W.cell? ⟨b, 1, none⟩ = some a1) (h2 : W.cell? ⟨b, 2, none⟩ = some a2) (h3 : W.cell? ⟨b + 1, 0, none⟩ = some a3) (c0 c1 c2 c3 : Value) :
    let U := (((W.setCell ⟨b, 0, none⟩ c0).setCell ⟨b, 1, none⟩ c1).setCell ⟨b, 2, none⟩ c2).setCell ⟨b + 1, 0, none⟩ c3
    U.cell? ⟨b, 0, none⟩ = some c0 ∧ U.cell? ⟨b, 1, none⟩ = some c1 ∧ U.cell? ⟨b, 2, none⟩ = some c2 ∧ U.cell? ⟨b + 1, 0, none⟩ = some c3 := by
  have e01 : (⟨b, 0, none⟩ : Addr) ≠ ⟨b, 1, none⟩ := by simp
  have e02 : (⟨b, 0, none⟩ : Addr) ≠ ⟨b, 2, none⟩ := by simp
  have e12 : (⟨b, 1, none⟩ : Addr) ≠ ⟨b, 2, none⟩ := by simp
  have e3 : ∀ j, (⟨b + 1, 0, none⟩ : Addr) ≠ ⟨b, j, none⟩ := fun j => by simp
  refine ⟨?_, ?_, ?_, ?_⟩
  · rw [World.cell?_setCell_other _ _ _ _ (e3 _), World.cell?_setCell_other _ _ _ _ (e02.symm), World.cell?_setCell_other _ _ _ _ (e01.symm)]; exact World.cell?_setCell_same _ _ _ h0
  · rw [World.cell?_setCell_other _ _ _ _ (e3 _), World.cell?_setCell_other _ _ _ _ (e12.symm)]; exact World.cell?_setCell_same _ _ _ (by rw [World.cell?_setCell_other _ _ _ _ (e01)]; exact h1)
  · rw [World.cell?_setCell_other _ _ _ _ (e3 _)]; exact World.cell?_setCell_same _ _ _ (by rw [World.cell?_setCell_other _ _ _ _ (e12), World.cell?_setCell_other _ _ _ _ (e02)]; exact h2)
  · exact World.cell?_setCell_same _ _ _ (by rw [World.cell?_setCell_other _ _ _ _ ((e3 _).symm), World.cell?_setCell_other _ _ _ _ ((e3 _).symm), World.cell?_setCell_other _ _ _ _ ((e3 _).symm)]; exact h3)
set_option maxRecDepth 100000 in
set_option maxHeartbeats 1000000 in
theorem first_any (g : Nat) (lb : Array Value) (L : List BX) (w : World) (heg : ∀ args w, (callFunc g args).run Tryz.prog w = .ok (.enter g args) w)
    (hH : ∀ m, Hands Fence.wide m Tryz.prog g lb (fun x : BX => #[x.atomV]) (fun _ => False) (fun ys => ys = L) (fun pre => pre <+: L) w) :
    Calls Tryz.prog 29 #[.func (.func g) #[] lb] w fun e w' => e = .returned (firstA L) ∧ Below w.heap.size w w' := by
  have HH := hide hH
  have HEG := hide heg
  clear hH heg
  refine (callsIn_wide (n := 30)).1 ?_
  refine callsIn_of_wp_marks Tryz.func29 rfl trivial ?_ rfl
  simp only [Tryz.ntmps29, List.size_toArray, List.length_cons, List.length_nil, Nat.reduceAdd, Nat.reduceSub, Array.replicate_succ, Array.replicate_zero, List.push_toArray, List.append_toArray, List.nil_append, List.cons_append]
  obtain ⟨W2, HW2⟩ : ∃ W2, Hid (W2 = (w.alloc (.cells #[.string ⟨#[]⟩, .slice none 0 0, .int .i64 0] 70)).alloc (.cells #[.bool false] 4)) := ⟨_, rfl⟩
  have HB2 : Hid (Below w.heap.size w W2) := by rw [HW2.out]; exact ((Below.refl _ _).alloc (Nat.le_refl _) _).alloc (by simp) _
  have HS2 : Hid (W2.heap.size = w.heap.size + 2) := by show _ = _; rw [HW2.out]; simp
  have HR2 : Hid (Rnd (fun _ => False) w W2) := by rw [HW2.out]; exact ((Rnd.refl _ _).alloc _).alloc _
  have HX1 : Hid (W2.heap[w.heap.size]? = some (.cells #[.string ⟨#[]⟩, .slice none 0 0, .int .i64 0] 70)) := by
    rw [HW2.out]; exact (Below.heap_alloc _ _ _ (by simp)).trans (World.alloc_heap_new w _)
  have HX2 : Hid (W2.heap[w.heap.size + 1]? = some (.cells #[.bool false] 4)) := by
    rw [HW2.out]
    have := World.alloc_heap_new (w.alloc (.cells #[.string ⟨#[]⟩, .slice none 0 0, .int .i64 0] 70)) (.cells #[.bool false] 4)
    rwa [World.size_alloc] at this
  have hW2 := HW2.out.symm
  gi_wp2
  clear hW2
  refine range_hands rfl (by omega) (gf := g) (lb := lb) rfl trivial HEG.out (HH.out 29) HR2.out (fun k hm => hm.elim) (fun k => k = w.heap.size ∨ k = w.heap.size + 1) (fun k hm => by have := HS2.out; have hm2 : k = w.heap.size ∨ k = w.heap.size + 1 := hm; omega) (fun _ => rfl)
    (fun pre W' => pre = [] ∧ Below w.heap.size w W' ∧ W'.heap[w.heap.size]? = some (.cells #[.string ⟨#[]⟩, .slice none 0 0, .int .i64 0] 70) ∧ W'.heap[w.heap.size + 1]? = some (.cells #[.bool false] 4))
    (fun c pre W' => c = .ret ∧ ∃ x, pre = [x] ∧ Below w.heap.size w W' ∧ W'.cell? ⟨w.heap.size, 0, none⟩ = some (.string (str x.name)) ∧ W'.cell? ⟨w.heap.size, 1, none⟩ = some (.slice x.ua x.n x.uc) ∧ W'.cell? ⟨w.heap.size, 2, none⟩ = some (.int .i64 (x.place : Nat)) ∧ W'.cell? ⟨w.heap.size + 1, 0, none⟩ = some (.bool true))
    (fun s A C h hb => ⟨h.1, h.2.1.trans (hb.mono (by have := HS2.out; omega)), (hb.block _ (by have := HS2.out; omega)).trans h.2.2.1, (hb.block _ (by have := HS2.out; omega)).trans h.2.2.2⟩)
    (fun c s A C h hb => ⟨h.1, by
      obtain ⟨x, h1, h2, h3, h4, h5, h6⟩ := h.2
      exact ⟨x, h1, h2.trans (hb.mono (by have := HS2.out; omega)), (hb.cell (p := ⟨w.heap.size, 0, none⟩) (by have := HS2.out; show w.heap.size < _; omega)).trans h3, (hb.cell (p := ⟨w.heap.size, 1, none⟩) (by have := HS2.out; show w.heap.size < _; omega)).trans h4, (hb.cell (p := ⟨w.heap.size, 2, none⟩) (by have := HS2.out; show w.heap.size < _; omega)).trans h5, (hb.cell (p := ⟨w.heap.size + 1, 0, none⟩) (by have := HS2.out; show w.heap.size + 1 < _; omega)).trans h6⟩⟩)
    ⟨rfl, HB2.out, HX1.out, HX2.out⟩
    (fun x a' W' => ∃ Bx, W'.cell? ⟨Bx, 0, none⟩ = some (.string (str x.name)) ∧ W'.cell? ⟨Bx, 1, none⟩ = some (.slice x.ua x.n x.uc) ∧ W'.cell? ⟨Bx, 2, none⟩ = some (.int .i64 (x.place : Nat)) ∧ a' = { tmps := #[.func (.func g) #[] lb, undef, .pointer (some ⟨w.heap.size, 0, none⟩), .pointer (some ⟨w.heap.size + 1, 0, none⟩), .pointer (some ⟨Bx, 0, none⟩), undef, .func (.func g) #[] lb, x.atomV, undef, undef], defers := [] })
    ?hAx ?assign ?body ?done ?stop
  case hAx =>
    rintro x a' W' l' r o hl' ⟨Bx, h0, h1, h2, rfl⟩
    exact ⟨Bx, cell_put_loop hl' h0, cell_put_loop hl' h1, cell_put_loop hl' h2, rfl⟩
  case assign =>
    rintro l' pre ⟨xk, xn, xl, xa, xc, xp, xts⟩ W' K hsz hi hK
    have HK := hide hK
    clear hK hi
    dsimp only [BX.atomV]
    gi_wp2
    refine HK.out _ _ ((Rnd.refl _ _).alloc _) ⟨W'.heap.size, ?_, ?_, ?_, rfl⟩ <;> (rw [World.cell?_alloc_at _ _ _ _ rfl]; rfl)
  case body =>
    rintro l' pre x a' W' hsz ⟨rfl, hb, hx1, hx2⟩ ⟨Bx, h0, h1, h2, rfl⟩ hlen
    have k0 : W'.cell? ⟨w.heap.size, 0, none⟩ = some (.string ⟨#[]⟩) := by simp [World.cell?, hx1]
    have k1 : W'.cell? ⟨w.heap.size, 1, none⟩ = some (.slice none 0 0) := by simp [World.cell?, hx1]
    have k2 : W'.cell? ⟨w.heap.size, 2, none⟩ = some (.int .i64 0) := by simp [World.cell?, hx1]
    have k3 : W'.cell? ⟨w.heap.size + 1, 0, none⟩ = some (.bool false) := by simp [World.cell?, hx2]
    have f0 : W'.frozen? ⟨w.heap.size, 0, none⟩ = false := by simp [World.frozen?, hx1]
    have f1 : W'.frozen? ⟨w.heap.size, 1, none⟩ = false := by simp [World.frozen?, hx1]
    have f2 : W'.frozen? ⟨w.heap.size, 2, none⟩ = false := by simp [World.frozen?, hx1]
    have f3 : W'.frozen? ⟨w.heap.size + 1, 0, none⟩ = false := by simp [World.frozen?, hx2]
    have HX1' := hide hx1
    have HX2' := hide hx2
    have HBB := hide hb
    clear hx1 hx2 hb
    gi_wp2
    obtain ⟨j0, j1, j2, j3⟩ := set4 k0 k1 k2 k3 (.string (str x.name)) (.slice x.ua x.n x.uc) (.int .i64 (x.place : Nat)) (.bool true)
    exact ⟨((((Rnd.refl _ _).setCell (.inr (.inl rfl)) _).setCell (.inr (.inl rfl)) _).setCell (.inr (.inl rfl)) _).setCell (.inr (.inr rfl)) _, rfl, x, rfl, (((HBB.out.setCell (Nat.le_refl _) _).setCell (Nat.le_refl _) _).setCell (Nat.le_refl _) _).setCell (Nat.le_succ _) _, j0, j1, j2, j3⟩
  case done =>
    rintro D xs W' hD rfl ⟨rfl, hb, hx1, hx2⟩ hd
    obtain ⟨Wa, HWA⟩ : ∃ Wa, Hid (Wa = W'.alloc (.cells #[.string ⟨#[]⟩, .slice none 0 0, .int .i64 0] 70)) := ⟨_, rfl⟩
    have hda : Wa.heap[D]? = some (.deferred (some [])) := by rw [HWA.out]; exact (Below.heap_alloc _ _ _ (Array.getElem?_eq_some_iff.1 hd).1).trans hd
    have hxa1 : Wa.heap[w.heap.size]? = some (.cells #[.string ⟨#[]⟩, .slice none 0 0, .int .i64 0] 70) := by rw [HWA.out]; exact (Below.heap_alloc _ _ _ (Array.getElem?_eq_some_iff.1 hx1).1).trans hx1
    have hxa2 : Wa.heap[w.heap.size + 1]? = some (.cells #[.bool false] 4) := by rw [HWA.out]; exact (Below.heap_alloc _ _ _ (Array.getElem?_eq_some_iff.1 hx2).1).trans hx2
    have n0 : Wa.cell? ⟨W'.heap.size, 0, none⟩ = some (.string ⟨#[]⟩) := by rw [HWA.out, World.cell?_alloc_at _ _ _ _ rfl]; rfl
    have n1 : Wa.cell? ⟨W'.heap.size, 1, none⟩ = some (.slice none 0 0) := by rw [HWA.out, World.cell?_alloc_at _ _ _ _ rfl]; rfl
    have n2 : Wa.cell? ⟨W'.heap.size, 2, none⟩ = some (.int .i64 0) := by rw [HWA.out, World.cell?_alloc_at _ _ _ _ rfl]; rfl
    have HBA : Hid (Below w.heap.size w Wa) := by rw [HWA.out]; exact hb.alloc hb.size _
    have k0 : Wa.cell? ⟨w.heap.size, 0, none⟩ = some (.string ⟨#[]⟩) := by simp [World.cell?, hxa1]
    have k1 : Wa.cell? ⟨w.heap.size, 1, none⟩ = some (.slice none 0 0) := by simp [World.cell?, hxa1]
    have k2 : Wa.cell? ⟨w.heap.size, 2, none⟩ = some (.int .i64 0) := by simp [World.cell?, hxa1]
    have k3 : Wa.cell? ⟨w.heap.size + 1, 0, none⟩ = some (.bool false) := by simp [World.cell?, hxa2]
    have f0 : Wa.frozen? ⟨w.heap.size, 0, none⟩ = false := by simp [World.frozen?, hxa1]
    have f1 : Wa.frozen? ⟨w.heap.size, 1, none⟩ = false := by simp [World.frozen?, hxa1]
    have f2 : Wa.frozen? ⟨w.heap.size, 2, none⟩ = false := by simp [World.frozen?, hxa1]
    have f3 : Wa.frozen? ⟨w.heap.size + 1, 0, none⟩ = false := by simp [World.frozen?, hxa2]
    have hWA := HWA.out.symm
    have HDA := hide hda
    have HXA1 := hide hxa1
    have HXA2 := hide hxa2
    clear hx1 hx2 hda hb hd hxa1 hxa2
    obtain ⟨j0, j1, j2, j3⟩ := set4 k0 k1 k2 k3 (.string ⟨#[]⟩) (.slice none 0 0) (.int .i64 0) (.bool false)
    have HBS : Hid (Below w.heap.size w ((((Wa.setCell ⟨w.heap.size, 0, none⟩ (.string ⟨#[]⟩)).setCell ⟨w.heap.size, 1, none⟩ (.slice none 0 0)).setCell ⟨w.heap.size, 2, none⟩ (.int .i64 0)).setCell ⟨w.heap.size + 1, 0, none⟩ (.bool false))) :=
      (((HBA.out.setCell (Nat.le_refl _) _).setCell (Nat.le_refl _) _).setCell (Nat.le_refl _) _).setCell (Nat.le_succ _) _
    have hDD : ((((Wa.setCell ⟨w.heap.size, 0, none⟩ (.string ⟨#[]⟩)).setCell ⟨w.heap.size, 1, none⟩ (.slice none 0 0)).setCell ⟨w.heap.size, 2, none⟩ (.int .i64 0)).setCell ⟨w.heap.size + 1, 0, none⟩ (.bool false)).heap[D]? = some (.deferred (some [])) := by
      have hDS := HS2.out
      have r := ((((Rnd.refl (fun k => k = w.heap.size ∨ k = w.heap.size + 1) Wa).setCell (p := ⟨w.heap.size, 0, none⟩) (.inr (.inl rfl)) (.string ⟨#[]⟩)).setCell (p := ⟨w.heap.size, 1, none⟩) (.inr (.inl rfl)) (.slice none 0 0)).setCell (p := ⟨w.heap.size, 2, none⟩) (.inr (.inl rfl)) (.int .i64 0)).setCell (p := ⟨w.heap.size + 1, 0, none⟩) (.inr (.inr rfl)) (.bool false)
      exact (r.block D (Array.getElem?_eq_some_iff.1 HDA.out).1 (by omega)).trans HDA.out
    gi_wp2
    generalize ((((Wa.setCell ⟨w.heap.size, 0, none⟩ (.string ⟨#[]⟩)).setCell ⟨w.heap.size, 1, none⟩ (.slice none 0 0)).setCell ⟨w.heap.size, 2, none⟩ (.int .i64 0)).setCell ⟨w.heap.size + 1, 0, none⟩ (.bool false)) = U at *
    refine ⟨by simp, .inl ⟨_, _, rfl, run_takeDeferred hDD, ?_⟩⟩
    have hDw : D ≠ w.heap.size ∧ D ≠ w.heap.size + 1 := by have := HS2.out; omega
    have p0 := cell_put_other (o := .deferred none) hDw.1.symm j0
    have p1 := cell_put_other (o := .deferred none) hDw.1.symm j1
    have p2 := cell_put_other (o := .deferred none) hDw.1.symm j2
    have p3 := cell_put_other (o := .deferred none) hDw.2.symm j3
    have HBP : Hid (Below w.heap.size w (U.putObj D (.deferred none))) := HBS.out.trans (below_put (by have := HS2.out; omega))
    generalize U.putObj D (.deferred none) = V at *
    simp [LeavesInM, LeavesIn, results, Tryz.results29, p0, p1, p2, p3, go_sem]
    exact ⟨rfl, HBP.out⟩
  case stop =>
    rintro D c pre W' hD hpre ⟨rfl, x, rfl, hb, k0, k1, k2, k3⟩ hd
    gi_wp2
    refine ⟨by simp, .inl ⟨_, _, rfl, run_takeDeferred hd, ?_⟩⟩
    have hDw : D ≠ w.heap.size ∧ D ≠ w.heap.size + 1 := by have := HS2.out; omega
    have p0 := cell_put_other (o := .deferred none) hDw.1.symm k0
    have p1 := cell_put_other (o := .deferred none) hDw.1.symm k1
    have p2 := cell_put_other (o := .deferred none) hDw.1.symm k2
    have p3 := cell_put_other (o := .deferred none) hDw.2.symm k3
    have HBP : Hid (Below w.heap.size w (W'.putObj D (.deferred none))) := hb.trans (below_put (by have := HS2.out; omega))
    generalize W'.putObj D (.deferred none) = V at *
    simp [LeavesInM, LeavesIn, results, Tryz.results29, p0, p1, p2, p3, go_sem]
    obtain ⟨t, rfl⟩ := hpre
    exact ⟨rfl, HBP.out⟩
end Go.Proofs.YtgllfcoafgphbaaGreatDoor

/-
  The program's check.circular, walked.
-/
namespace Go.Proofs.YtgllfcoafgphbaaGreatDoor
open Go.ChangeShapes Go.WideShapes Go.ChangeAt Go.RowKit Go.Hands Go.WideMaps Go.Maps
set_option linter.unusedVariables false
attribute [local go_sem] Oper.semAt_some
set_option maxRecDepth 100000 in
set_option maxHeartbeats 4000000 in
theorem circ_hands (n base Bn Ba : Nat) (name : List UInt8) (ha : Option Addr) (hn hc place : Nat) (bd : Value) (ps : List PPart) (vs : List Value) (A nn : Nat) (D : DataW Value) (H : List UInt8 → Bool) (S : List UInt8 → List (List UInt8)) (bf : List UInt8 → Nat) (f : BX → Bool) (w0 w : World) (hw0 : Rnd (fun _ => False) w0 w)
    (hbox : RuleBox w Bn name ha hn hc place bd) (hall : w.cell? ⟨Ba, 0, none⟩ = some (.map (some A))) (hg : Hang w A nn D H S bf) (hparts : PartsAt 76 164 base w0 bd ps vs)
    (hf : ∀ x, f x = (x.kind == 1 && (H x.name && decide (name ∈ S x.name)))) (hl : ps.length ≤ 1000000) (hkd : ∀ p ∈ ps, p.kind ≤ 1000 ∧ p.atom.name.length ≤ 1000000) (hnl : name.length ≤ 1000000) (hn1 : 19 ≤ n) :
    Hands Fence.wide n Tryz.prog 66 #[.pointer (some ⟨Bn, 0, none⟩), .pointer (some ⟨Ba, 0, none⟩)] (fun x : BX => #[x.atomV]) (fun _ => False) (fun ys => ys = (bodyX ps vs).filter f) (fun pre => pre <+: (bodyX ps vs).filter f) w := by
  intro l Mx J Jx W hW hMx hJ hJx hY h0
  have HMX := hide hMx
  have HJ : Hid (Low W.heap.size J) := hJ
  have HJX : Hid (Low W.heap.size Jx) := hJx
  have HY := hide hY
  have HWW := hide hW
  have H0 := hide h0
  have HFF := hide hf
  obtain ⟨q0, q1, q2, q3⟩ := hbox.rnd hW (fun hm => hm)
  have qa := hW.cell hall (fun hm => hm)
  have HGW : Hid (Hang W A nn D H S bf) := hg.rnd hW (fun h => h) (fun _ _ h => h)
  have hbd := own_slice hparts.own
  obtain ⟨bda, HBA⟩ : ∃ a, Hid (a = sliceA bd) := ⟨_, rfl⟩
  obtain ⟨bdc, HBC⟩ : ∃ c, Hid (c = sliceC bd) := ⟨_, rfl⟩
  rw [← HBA.out, ← HBC.out] at hbd
  rw [hbd] at q3
  have HPS := hide hparts
  have HW0 := hide hw0
  have HKD := hide hkd
  obtain ⟨sn, HSN⟩ : ∃ sn, Hid (sn = str name) := ⟨_, rfl⟩
  rw [← HSN.out] at q0
  clear hW hMx hJ hJx hY h0 hparts hw0 hkd hbox hall hg hf
  obtain ⟨W2, HW2⟩ : ∃ W2, Hid (W2 = W.alloc (.cells #[.func (.yield l) #[] #[]] 117)) := ⟨_, rfl⟩
  have HB2 : Hid (Below W.heap.size W W2) := by rw [HW2.out]; exact (Below.refl _ _).alloc (Nat.le_refl _) _
  have HR2 : Hid (Rnd (fun _ => False) W W2) := by rw [HW2.out]; exact (Rnd.refl _ _).alloc _
  have HS2 : Hid (W2.heap.size = W.heap.size + 1) := by show _ = _; rw [HW2.out]; simp
  have y2 : W2.cell? ⟨W.heap.size, 0, none⟩ = some (.func (.yield l) #[] #[]) := by rw [HW2.out, World.cell?_alloc_at _ _ _ _ rfl]; rfl
  have z0 := HR2.out.cell q0 (fun h => h)
  have z1 := HR2.out.cell q1 (fun h => h)
  have z2 := HR2.out.cell q2 (fun h => h)
  have z3 := HR2.out.cell q3 (fun h => h)
  have hW2 := HW2.out.symm
  have HJ2 : Hid (J [] W2) := HJ.out _ _ _ H0.out HB2.out
  refine callsIn_of_wp_marks Tryz.func66 rfl trivial ?_ rfl
  simp only [Tryz.ntmps66, List.size_toArray, List.length_cons, List.length_nil, Nat.reduceAdd, Nat.reduceSub, Array.replicate_succ, Array.replicate_zero, List.push_toArray, List.append_toArray, List.nil_append, List.cons_append]
  gi_wp2_with fail
  clear hW2 z0 z1 z2 z3
  refine ⟨trivial, fun h => (by cases h), ?_⟩
  refine (callsIn_wide.2 (body_any sn ha hn hc (place : Nat) bda ps.length bdc W2)).mono ?_
  rintro e W4 ⟨rfl, hW4⟩
  have HR24 : Hid (Rnd (fun _ => False) W2 W4) := by rw [hW4]; exact (Rnd.refl _ _).alloc _
  have HS4 : Hid (W4.heap.size = W2.heap.size + 1) := by show _ = _; rw [hW4]; simp
  have b4 : W4.cell? ⟨W2.heap.size, 3, none⟩ = some bd := by rw [hW4, World.cell?_alloc_at _ _ _ _ rfl, hbd]; rfl
  have HR4 : Hid (Rnd (fun _ => False) W W4) := HR2.out.trans HR24.out
  have y4 := HR24.out.cell y2 (fun h => h)
  have HJ4 : Hid (J [] W4) := HJ.out _ _ _ HJ2.out ((HR24.out.below (n := W2.heap.size) (Nat.le_refl _) (fun _ h => h.elim)).mono (by have := HS2.out; omega))
  clear hW4 y2
  gi_wp2
  refine range_hands rfl (by omega) (gf := 96) (lb := #[.pointer (some ⟨W2.heap.size, 0, none⟩)]) rfl trivial (enters_of Tryz.func96 (by kernel_rfl) rfl)
    (body_hands0 (n - 1) base W2.heap.size bd ps vs (fun _ => False) w0 W4 (HW0.out.trans (HWW.out.trans HR4.out)) b4 HPS.out (fun g _ h => h) (fun _ h => h.elim) hl (fun p hp => (HKD.out p hp).1))
    (Rnd.refl _ _) (fun _ h => h.elim) Mx (fun k hm => by have := HMX.out k hm; have := HS4.out; have := HS2.out; omega) (fun _ => rfl)
    (fun pre W' => J (pre.filter f) W' ∧ Rnd (fun _ => False) W W' ∧ W'.cell? ⟨W.heap.size, 0, none⟩ = some (.func (.yield l) #[] #[]))
    (fun c pre W' => c = .ret ∧ Jx (pre.filter f) W')
    (fun s A C h hb => ⟨HJ.out _ _ _ h.1 (hb.mono (by have := HS4.out; have := HS2.out; omega)), low_rnd (β := Unit) (by have := HS4.out; have := HS2.out; omega) () A C h.2.1 hb, (hb.cell (p := ⟨W.heap.size, 0, none⟩) (by have := HS4.out; have := HS2.out; show W.heap.size < _; omega)).trans h.2.2⟩)
    (fun c s A C h hb => ⟨h.1, HJX.out _ _ _ h.2 (hb.mono (by have := HS4.out; have := HS2.out; omega))⟩)
    ⟨HJ4.out, HR4.out, y4⟩
    (fun x a' W' => ∃ Bx, W'.cell? ⟨Bx, 0, none⟩ = some (.string (str x.name)) ∧ W'.cell? ⟨Bx, 1, none⟩ = some (.slice x.ua x.n x.uc) ∧ W'.cell? ⟨Bx, 2, none⟩ = some (.int .i64 (x.place : Nat)) ∧ a' = { tmps := #[.func (.yield l) #[] #[], .pointer (some ⟨Bn, 0, none⟩), .pointer (some ⟨Ba, 0, none⟩), .pointer (some ⟨W.heap.size, 0, none⟩), .int .i64 (x.kind : Nat), .pointer (some ⟨Bx, 0, none⟩), .agg #[.string sn, .slice ha hn hc, .int .i64 (place : Nat), .slice bda ps.length bdc], .func (.func 96) #[] #[.pointer (some ⟨W2.heap.size, 0, none⟩)], .int .i64 (x.kind : Nat), x.atomV, undef, undef, undef, undef, undef, undef, undef, undef, undef, undef, undef, undef, undef, undef, undef, undef], defers := [] })
    ?hAx ?assign ?body ?done ?stop
  case hAx =>
    rintro x a' W' l' r o hl' ⟨Bx, h0, h1, h2, rfl⟩
    exact ⟨Bx, cell_put_loop hl' h0, cell_put_loop hl' h1, cell_put_loop hl' h2, rfl⟩
  case assign =>
    rintro l' pre ⟨xk, xn, xl, xa, xc, xp, xts⟩ W' K hsz hi hK
    have HK := hide hK
    clear hK hi
    dsimp only [BX.atomV]
    gi_wp2
    refine HK.out _ _ ((Rnd.refl _ _).alloc _) ⟨W'.heap.size, ?_, ?_, ?_, rfl⟩ <;> (rw [World.cell?_alloc_at _ _ _ _ rfl]; rfl)
  case body =>
    rintro l' pre x a' W' hsz ⟨hj, hr, hy'⟩ ⟨Bx, h0, h1, h2, rfl⟩ hlen
    obtain ⟨i, p, u, hp, _, hkk, hxe⟩ := bodyX_mem (hlen.subset (List.mem_append_right _ (List.mem_singleton.2 rfl)))
    have hxb : x.kind ≤ 1000 ∧ x.name.length ≤ 1000000 := by rw [hxe]; exact HKD.out p (List.mem_of_getElem? hp)
    have HPF : Hid ((pre ++ [x]).filter f = pre.filter f ++ (if f x then [x] else [])) := by
      show _ = _
      rw [List.filter_append]
      by_cases hfx : f x = true <;> simp [hfx]
    have HPX : Hid ((pre ++ [x]).filter f <+: (bodyX ps vs).filter f) := by
      obtain ⟨t, ht⟩ := hlen
      show _ <+: _
      rw [← ht, List.filter_append (l₁ := pre ++ [x])]; exact List.prefix_append _ _
    have HFX := hide (HFF.out x)
    have r0 := hr.cell q0 (fun h => h)
    have ra := hr.cell qa (fun h => h)
    have HJ1 := hide hj
    have HRX := hide hr
    have HG1 : Hid (Hang W' A nn D H S bf) := HGW.out.rnd hr (fun h => h) (fun _ _ h => h)
    obtain ⟨kd, HKDE⟩ : ∃ kd, Hid (kd = x.kind) := ⟨_, rfl⟩
    rw [← HKDE.out] at HFX hxb
    rw [← HKDE.out]
    clear hp hkk hxe hlen hj hr
    by_cases hk1 : kd = 1
    · subst hk1
      have HCA := hide (hangs_any A nn D H S bf x.name name W' HG1.out hxb.2 hnl)
      obtain ⟨sx, HSX⟩ : ∃ sx, Hid (sx = str x.name) := ⟨_, rfl⟩
      rw [← HSX.out, ← HSN.out] at HCA
      rw [← HSX.out] at h0
      gi_wp2_with fail
      refine ⟨trivial, fun h => (by cases h), ?_⟩
      refine (CallsIn.inRound l' (callsIn_wide.2 HCA.out)).mono ?_
      rintro e w5 ⟨rfl, hw5⟩
      have HR5 : Hid (Rnd (fun _ => False) W' w5) := by rw [hw5]; exact (Rnd.refl _ _).alloc _
      have HRX5 : Hid (Rnd (fun _ => False) W w5) := HRX.out.trans HR5.out
      have HJ5 : Hid (J (pre.filter f) w5) := HJ.out _ _ _ HJ1.out ((HR5.out.below (n := W'.heap.size) (Nat.le_refl _) (fun _ h => h.elim)).mono HRX.out.size)
      replace h0 := HR5.out.cell h0 (fun h => h)
      replace h1 := HR5.out.cell h1 (fun h => h)
      replace h2 := HR5.out.cell h2 (fun h => h)
      replace hy' := HR5.out.cell hy' (fun h => h)
      clear hw5 HCA r0 ra
      cases hq : (H x.name && decide (name ∈ S x.name)) with
      | true =>
        have HFE : Hid (f x = true) := by show _ = _; rw [HFX.out, hq]; rfl
        have HFS : Hid ((pre ++ [x]).filter f = pre.filter f ++ [x]) := by show _ = _; rw [HPF.out, HFE.out]; simp
        obtain ⟨fn', tmps', assign', body', hyy, hRR⟩ := HY.out (pre.filter f) x w5 HJ5.out HRX5.out (by rw [← HFS.out]; exact HPX.out)
        have HR6 := hide hRR
        clear hRR hq
        dsimp only [BX.atomV] at hyy
        rw [← HSX.out] at hyy
        gi_wp2
        clear hyy h0 h1 h2
        refine ⟨fun h => (by cases h), ?_⟩
        refine RoundIn.mono (RoundIn.wideDepth HR6.out) ?_
        rintro e W5 (⟨rfl, hJ6, hr6⟩ | ⟨rfl, hJx6, hr6⟩)
        · have HJ6 := hide hJ6
          have HR7 := hide hr6
          have hy6 := hr6.cell hy' (fun h => h)
          clear hJ6 hr6
          gi_wp2
          exact ⟨HR5.out.trans HR7.out, by rw [HFS.out]; exact HJ6.out, HRX5.out.trans HR7.out, hy6⟩
        · have HJ6 := hide hJx6
          have HR7 := hide hr6
          clear hJx6 hr6
          gi_wp2
          exact ⟨(HR5.out.mono (fun _ h => h.elim)).trans HR7.out, rfl, by rw [HFS.out]; exact HJ6.out⟩
      | false =>
        have HFE : Hid (f x = false) := by show _ = _; rw [HFX.out, hq]; simp
        have HFS : Hid ((pre ++ [x]).filter f = pre.filter f) := by show _ = _; rw [HPF.out, HFE.out]; simp
        clear hq
        gi_wp2
        exact ⟨HR5.out, by rw [HFS.out]; exact HJ5.out, HRX5.out, hy'⟩
    · have hne : ((kd : Int) != 1) = true := by simp; omega
      have HFE : Hid (f x = false) := by show _ = _; rw [HFX.out]; simp [hk1]
      have HFS : Hid ((pre ++ [x]).filter f = pre.filter f) := by show _ = _; rw [HPF.out, HFE.out]; simp
      gi_wp2
      refine ⟨trivial, ?_⟩
      gi_wp2
      exact ⟨Rnd.refl _ _, by rw [HFS.out]; exact HJ1.out, HRX.out, hy'⟩
  case done =>
    rintro D xs W' hD rfl ⟨hj, hr, -⟩ hd
    gi_wp2
    refine ⟨by simp, .inl ⟨_, _, rfl, run_takeDeferred hd, ?_⟩⟩
    have hDW : W.heap.size ≤ D := by have := HS4.out; have := HS2.out; omega
    exact ⟨_, results_none rfl _ _ _, ⟨_, rfl⟩, .inl ⟨_, rfl, HJ.out _ _ _ hj (below_put hDW), hr.put (.inl hDW)⟩⟩
  case stop =>
    rintro D c pre W' hD hpre ⟨rfl, hj⟩ hd
    gi_wp2
    refine ⟨by simp, .inl ⟨_, _, rfl, run_takeDeferred hd, ?_⟩⟩
    have hDW : W.heap.size ≤ D := by have := HS4.out; have := HS2.out; omega
    obtain ⟨t, ht⟩ := hpre
    exact ⟨_, results_none rfl _ _ _, ⟨_, rfl⟩, .inr ⟨_, by rw [← ht, List.filter_append]; exact List.prefix_append _ _, HJX.out _ _ _ hj (below_put hDW)⟩⟩
end Go.Proofs.YtgllfcoafgphbaaGreatDoor
