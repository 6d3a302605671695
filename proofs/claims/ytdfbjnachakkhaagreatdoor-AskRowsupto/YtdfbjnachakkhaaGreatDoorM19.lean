import Derived.Test.YtdfbjnachakkhaaGreatDoorM18
import Derived.Deep.AppendLies
import Derived.Deep.RegionLaw
namespace Go.Proofs.YtdfbjnachakkhaaGreatDoor
open Go.ChangeShapes Go.WideShapes Go.ChangeAt Go.RowKit Go.Hands Go.WideMaps Go.Maps
set_option linter.unusedVariables false
set_option maxRecDepth 100000
theorem indexInt0 (a : Option Addr) (c f : Nat) (lb : Array Value) (w : World) :
    Calls Tryz.prog 181 #[.slice a 0 c, .func (.func f) #[] lb] w fun e w' => e = .returned (.int .i64 (-1)) ∧ w' = w := by
  go_enter Tryz.func181, Tryz.ntmps181
  go_wp2
  refine wp_loop_rounds 1 ?_
  rw [rounds_succ]
  go_wp2
  go_ret
  exact ⟨rfl, rfl⟩
theorem deleteInt0 (a : Option Addr) (c f : Nat) (lb : Array Value) (w : World) :
    Calls Tryz.prog 143 #[.slice a 0 c, .func (.func f) #[] lb] w fun e w' => e = .returned (.slice a 0 c) ∧ w' = w := by
  have HI := hide (indexInt0 a c f lb w)
  go_enter Tryz.func143, Tryz.ntmps143
  go_wp2_with fail
  refine HI.out.mono ?_
  rintro _ _ ⟨rfl, rfl⟩
  go_wp2
  go_ret
  exact ⟨rfl, rfl⟩
theorem containsInt0 (a : Option Addr) (c f : Nat) (lb : Array Value) (w : World) :
    Calls Tryz.prog 178 #[.slice a 0 c, .func (.func f) #[] lb] w fun e w' => e = .returned (.bool false) ∧ w' = w := by
  have HI := hide (indexInt0 a c f lb w)
  go_enter Tryz.func178, Tryz.ntmps178
  go_wp2_with fail
  refine HI.out.mono ?_
  rintro _ _ ⟨rfl, rfl⟩
  go_wp2
  go_ret
  exact ⟨rfl, rfl⟩
theorem termsOf0 (a : Option Addr) (c : Nat) (w : World) :
    Calls Tryz.prog 141 #[.slice a 0 c] w fun e w' => e = .returned (.slice none 0 0) ∧ w' = w := by
  go_enter Tryz.func141, Tryz.ntmps141
  go_wp2
  refine wp_loop_rounds 1 ?_
  rw [rounds_succ]
  go_wp2
  go_ret
  exact ⟨rfl, rfl⟩
set_option maxHeartbeats 1000000 in
theorem free0 (pp : Nat) (w : World) :
    Calls Tryz.prog 139 #[.pointer (some ⟨pp, 0, none⟩), .slice none 0 0] w fun e w' => (∃ a c, e = .returned (.slice a 0 c)) ∧ w.grownBy w' none := by
  have HV : Hid (∀ W, Calls Tryz.prog 137 #[.slice none 0 0] W fun e w' => (∃ a c, e = .returned (.slice a 0 c)) ∧ W.grownBy w' none) := by
    intro W
    refine (variablesOf_any 0 0 (.slice none 0 0) W (World.ownsRow_nil _ _ _ _) (by omega)).mono ?_
    rintro e w' ⟨⟨v', rfl, ho⟩, hg⟩
    obtain ⟨a, c, h⟩ := own_form ho
    exact ⟨⟨a, c, by rw [h]⟩, hg⟩
  have HD := hide deleteInt0
  go_enter Tryz.func139, Tryz.ntmps139
  go_wp2_with fail
  refine (HV.out _).mono ?_
  rintro _ w1 ⟨⟨a, c, rfl⟩, hg1⟩
  have HG1 : Hid (w.grownBy w1 none) := fr_both (fr_alloc _ _ _) hg1
  clear hg1
  go_wp2_with fail
  refine (HD.out a c _ _ _).mono ?_
  rintro _ _ ⟨rfl, rfl⟩
  go_wp2
  go_ret
  exact ⟨⟨a, c, rfl⟩, HG1.out⟩
set_option maxHeartbeats 1000000 in
theorem within0 (a a2 : Option Addr) (c n2 c2 : Nat) (w : World) :
    Calls Tryz.prog 140 #[.slice a 0 c, .slice a2 n2 c2] w fun e w' => e = .returned (.bool true) ∧ w.grownBy w' none := by
  have HD := hide containsInt0
  go_enter Tryz.func140, Tryz.ntmps140
  go_wp2_with fail
  refine (HD.out a c _ _ _).mono ?_
  rintro _ _ ⟨rfl, rfl⟩
  go_wp2
  go_ret
  exact ⟨rfl, fr_alloc _ _ _⟩
/-- what a plan's block holds -/
def planC (S : Nat) (parts given : Value) (n : Nat) (enough : Int) (stops : Value) : Array Value := #[.pointer (some ⟨S, 0, none⟩), .slice none 0 0, parts, .int .i64 (n : Nat), given, .int .i64 enough, stops]
set_option maxHeartbeats 1000000 in
theorem enough_any (pp S n g c : Nat) (given stops : Value) (w : World) (h : w.heap[pp]? = some (.cells (planC S (.slice (some ⟨g, 0, none⟩) 1 c) given n 0 stops) 156 (0, 0))) (hc : 1 ≤ c) :
    Calls Tryz.prog 104 #[.pointer (some ⟨pp, 0, none⟩)] w fun e w' => e = .returned (.int .i64 0) ∧ w.grownBy w' none := by
  have HF := hide (free0 pp)
  have HT := hide termsOf0
  have HW := hide within0
  have c1 : w.cell? ⟨pp, 1, none⟩ = some (.slice none 0 0) := cell_of h 1 _ rfl
  have c2 : w.cell? ⟨pp, 2, none⟩ = some (.slice (some ⟨g, 0, none⟩) 1 c) := cell_of h 2 _ rfl
  have i0 : (0 : Int) ≤ (c : Int) := by omega
  clear h
  go_enter Tryz.func104, Tryz.ntmps104
  go_wp2_with fail
  refine (HF.out w).mono ?_
  rintro _ w1 ⟨⟨wa, wc, rfl⟩, hg1⟩
  have HG1 := hide hg1
  have d2 := (FrS.none (S := fun _ => False) hg1).cell c2 (fun h => h)
  clear hg1
  go_wp2_with fail
  refine wp_loop_rounds 1 ?_
  rw [rounds_succ]
  go_wp2_with fail
  refine (HT.out _ _ _).mono ?_
  rintro _ _ ⟨rfl, rfl⟩
  go_wp2_with fail
  refine (HF.out _).mono ?_
  rintro _ w3 ⟨⟨xa, xc, rfl⟩, hg3⟩
  have HG3 : Hid (w.grownBy w3 none) := fr_both HG1.out hg3
  clear hg3
  go_wp2_with fail
  refine (HW.out _ _ _ _ _ _).mono ?_
  rintro _ w4 ⟨rfl, hg4⟩
  have HG4 : Hid (w.grownBy w4 none) := fr_both HG3.out hg4
  clear hg4
  go_wp2
  go_ret
  exact ⟨rfl, HG4.out⟩
set_option maxHeartbeats 1000000 in
theorem stop0_any (pp : Nat) (w : World) :
    Calls Tryz.prog 105 #[.pointer (some ⟨pp, 0, none⟩), .int .i64 0] w fun e w' => e = .returned (.agg #[.slice none 0 0, .bool false, .bool false]) ∧ w.grownBy w' none := by
  go_enter Tryz.func105, Tryz.ntmps105
  go_wp2
  refine bodyPost_ret (v := .agg #[.slice none 0 0, .bool false, .bool false]) (by simp [results, Tryz.results105, go_sem]) rfl ⟨rfl, fr_alloc _ _ _⟩
end Go.Proofs.YtdfbjnachakkhaaGreatDoor

namespace Go.Proofs.YtdfbjnachakkhaaGreatDoor
open Go.ChangeShapes Go.WideShapes Go.ChangeAt Go.RowKit Go.Hands Go.WideMaps Go.Maps
set_option linter.unusedVariables false
set_option maxRecDepth 100000
theorem infoStop : (Tryz.prog.info? 209).map (fun i => (i.zero, i.size, i.bytes)) = some (some (.agg #[.slice none 0 0, .bool false, .bool false]), 3, 32) := by kernel_rfl
/-- a plan of one atom of variables -/
structure Planned (B P S R n : Nat) (parts given stops vt : Value) (w : World) : Prop where
  blk : w.heap[P]? = some (.cells (planC S parts given n 0 stops) 156 (0, 0))
  prt : w.ownsRow B 202 4 parts 1 [.int .i64 0, .int .i64 0, .pointer (some ⟨R, 0, none⟩), vt]
  trm : w.ownsRow B 204 2 vt n (tvV n)
  stp : w.ownsRow B 209 3 stops 1 [.slice none 0 0, .bool false, .bool false]
  low : B ≤ P
theorem hold_way4 {F P : Nat → Nat → Nat → World → Prop} {G : Prop} (h1 : (∀ g c x w, F g c x w → P g c x w) → G) (h2 : ∀ g c x w, F g c x w → P g c x w) : G := h1 h2
theorem plan_thaw {w w' : World} {P : Nat} {arr : Array Value} {t : TypeId} (h : w.heap[P]? = some (.cells arr t (0, 0))) (hg : w.grownBy w' none) (j : Nat) : w'.frozen? ⟨P, j, none⟩ = false := thaw_of ((hg.block P (Array.getElem?_eq_some_iff.1 h).1 (by simp)).trans h) j
set_option maxHeartbeats 1000000 in
theorem plan_any (B S mv n R g c : Nat) (vt bv : Value) (xs : List (List UInt8)) (w : World) (hm : VarM mv xs w) (hxl : xs.length = n) (hBw : B ≤ w.heap.size)
    (hp : w.ownsRow B 202 4 (.slice (some ⟨g, 0, none⟩) 1 c) 1 [.int .i64 0, .int .i64 0, .pointer (some ⟨R, 0, none⟩), vt]) (h : w.ownsRow B 204 2 vt n (tvV n)) (hb : w.ownsRow B 4 1 bv n (offV n)) (hn : n ≤ 8) :
    Calls Tryz.prog 67 #[.agg #[.pointer (some ⟨S, 0, none⟩), .map (some mv)], .slice none 0 0, .slice (some ⟨g, 0, none⟩) 1 c, .int .i64 (-1), bv] w fun e w' => (∃ P parts stops, e = .returned (.pointer (some ⟨P, 0, none⟩)) ∧ Planned B P S R n parts bv stops vt w') ∧ w.grownBy w' none := by
  obtain ⟨i0, hi, hz0, hz1, hz2⟩ := info_parts infoStop
  have HM := hide hm
  have HP := hide hp
  have HT := hide h
  have HB := hide hb
  obtain ⟨va, vc, hve⟩ := own_form h
  obtain ⟨ba, bc, hbe⟩ := own_form hb
  obtain ⟨wA, HWA⟩ : ∃ wA, Hid (wA = w.alloc (.cells #[.pointer (some ⟨S, 0, none⟩), .map (some mv)] 140)) := ⟨_, rfl⟩
  have hwA := HWA.out.symm
  have HGA : Hid (w.grownBy wA none) := by rw [HWA.out]; exact fr_alloc _ _ _
  have HSA : Hid (wA.heap.size = w.heap.size + 1) := by show _ = _; rw [HWA.out]; simp
  have p0 : wA.heap[w.heap.size]? = some (.cells #[.pointer (some ⟨S, 0, none⟩), .map (some mv)] 140) := by rw [HWA.out]; exact heap_alloc_new _ _
  have c0 : wA.cell? ⟨w.heap.size, 0, none⟩ = some (.pointer (some ⟨S, 0, none⟩)) := cell_of p0 0 _ rfl
  have c1 : wA.cell? ⟨w.heap.size, 1, none⟩ = some (.map (some mv)) := cell_of p0 1 _ rfl
  have hlen : (Builtin.len_ #[72] 3 #[.map (some mv)]).run Tryz.prog wA.drew = .ok (.int .i64 (n : Nat)) wA.drew := by
    obtain ⟨D, h1, h2, h3⟩ := hm.map
    have := ((h1.kept HGA.out (by simp)).kept (fr_draws wA 1 none) (by simp)).len Tryz.underlying72 3
    rw [h3, hxl] at this; exact this
  rw [hbe]
  clear hm hp h hb p0
  go_enter Tryz.func67, Tryz.ntmps67
  obtain ⟨wB, HWB⟩ : ∃ wB, Hid (wB = wA.drew.alloc (.cells (planC S (.slice none 0 0) (.slice ba n bc) n 0 (.slice none 0 0)) 156)) := ⟨_, rfl⟩
  have hwB : wA.drew.alloc (.cells #[.pointer (some ⟨S, 0, none⟩), .slice none 0 0, .slice none 0 0, .int .i64 (n : Nat), .slice ba n bc, .int .i64 0, .slice none 0 0] 156) = wB := HWB.out.symm
  have HGB : Hid (wA.grownBy wB none) := by rw [HWB.out]; exact fr_both (fr_draws wA 1 none) (fr_alloc _ _ _)
  have HBB : Hid (wB.heap[wA.heap.size]? = some (.cells (planC S (.slice none 0 0) (.slice ba n bc) n 0 (.slice none 0 0)) 156 (0, 0))) := by rw [HWB.out]; exact heap_alloc_new wA.drew _
  have hsB : wA.heap.size < wB.heap.size := by rw [HWB.out]; simp
  have hlenB : (Builtin.len_ #[72] 3 #[.map (some mv)]).run Tryz.prog wB = .ok (.int .i64 (n : Nat)) wB := by
    obtain ⟨D, h1, h2, h3⟩ := HM.out.map
    have := (h1.kept (fr_both HGA.out HGB.out) (by simp)).len Tryz.underlying72 3
    rw [h3, hxl] at this; exact this
  have b0 := (FrS.none (S := fun _ => False) HGB.out).cell c0 (fun h => h)
  have b1 := (FrS.none (S := fun _ => False) HGB.out).cell c1 (fun h => h)
  have HGW : Hid (w.grownBy wB none) := fr_both HGA.out HGB.out
  have HAR := hide (arranged_any B B B n R g c vt bv wB (own_far HP.out HGW.out (by simp)) (HT.out.kept HGW.out (by cases vt.ownBlock <;> simp)) (HB.out.kept HGW.out (by cases bv.ownBlock <;> simp)) hn)
  rw [hbe] at HAR
  go_wp2_with fail
  go_region_held3 (fun w' => w'.cell? ⟨w.heap.size, 0, none⟩ = some (.pointer (some ⟨S, 0, none⟩)) ∧ w'.cell? ⟨w.heap.size, 1, none⟩ = some (.map (some mv)) ∧ (Builtin.len_ #[72] 3 #[.map (some mv)]).run Tryz.prog w' = .ok (.int .i64 (n : Nat)) w') (go_keep) (fail)
  clear hlen hlenB c0 c1 b0 b1
  go_wp2_with fail
  refine HAR.out.mono ?_
  rintro _ w1 ⟨⟨vp, rfl, hvp⟩, hg1⟩
  have HVP := hide hvp
  obtain ⟨gp, cp, hvpe, hgpl, _⟩ := hvp.form (by omega)
  have hcp : 1 ≤ cp := by
    rcases hvp.2 with ⟨e, _⟩ | ⟨g', cap', cur, hv, _, _, hn, _⟩
    · rw [hvpe] at e; cases e
    · rw [hvpe] at hv; cases hv; exact hn
  subst hvpe
  have HG1 := hide hg1
  have d0 := (hg1.block _ hsB (by simp)).trans HBB.out
  have x2 := cell_of d0 2 (.slice none 0 0) rfl
  have t2 := thaw_of d0 2
  obtain ⟨w2, HW2⟩ : ∃ w2, Hid (w2 = w1.setCell ⟨wA.heap.size, 2, none⟩ (.slice (some ⟨gp, 0, none⟩) 1 cp)) := ⟨_, rfl⟩
  have hw2 := HW2.out.symm
  have e0 : w2.heap[wA.heap.size]? = some (.cells (planC S (.slice (some ⟨gp, 0, none⟩) 1 cp) (.slice ba n bc) n 0 (.slice none 0 0)) 156 (0, 0)) := by rw [HW2.out]; exact blk_set d0 2 _
  have HF2 : Hid (FrS (fun j => j = wA.heap.size) w1 w2) := by rw [HW2.out]; exact FrS.of (fr_set w1 _ 2 _) (fun g e => .inl (Option.some.inj e).symm)
  have HEN := hide (enough_any wA.heap.size S n gp cp _ _ w2 e0 hcp)
  have hs1 : wB.heap.size ≤ w1.heap.size := hg1.size
  have hs2 : w1.heap.size ≤ w2.heap.size := HF2.out.size
  clear hvp hg1
  go_wp2_with fail
  refine HEN.out.mono ?_
  rintro _ w3 ⟨rfl, hg3⟩
  have HG3 := hide hg3
  have e3 := (hg3.block _ (by omega) (by simp)).trans e0
  have x5 := cell_of e3 5 (.int .i64 0) rfl
  have t5 := thaw_of e3 5
  have hsame := setCell_same (j := 5) (v := .int .i64 0) e3 rfl
  have x3 := cell_of e3 2 (.slice (some ⟨gp, 0, none⟩) 1 cp) rfl
  have x6 := cell_of e3 6 (.slice none 0 0) rfl
  have hs3 : w2.heap.size ≤ w3.heap.size := hg3.size
  have HE3 := hide e3
  have HST : Hid (∀ W : World, (∃ k, W = w3.drewN k) → Calls Tryz.prog 105 #[.pointer (some ⟨wA.heap.size, 0, none⟩), .int .i64 0] W fun e w' => e = .returned (.agg #[.slice none 0 0, .bool false, .bool false]) ∧ Hid (w3.grownBy w' none) ∧ w'.cell? ⟨wA.heap.size, 6, none⟩ = some (.slice none 0 0)) := by
    rintro W ⟨k, rfl⟩
    refine (stop0_any wA.heap.size _).mono ?_
    rintro e w' ⟨rfl, hg⟩
    have hgg := fr_both (fr_draws w3 k none) hg
    exact ⟨rfl, hgg, (FrS.none (S := fun _ => False) hgg).cell x6 (fun h => h)⟩
  clear hg3 d0 e0 x2 t2 e3
  go_wp2_with fail
  refine wp_loop_rounds 2 ?_
  rw [rounds_succ]
  go_wp2_with fail
  have hB3 : B ≤ w3.heap.size := by have := HGA.out.size; omega
  have hmx : Tryz.prog.follows .mixedOrders = true := by kernel_rfl
  have x6d : w3.drew.cell? ⟨wA.heap.size, 6, none⟩ = some (.slice none 0 0) := x6
  apply hold_way4 (F := fun gs cs gx w7 => ∃ w6, w3.grownBy w6 none ∧ w6.ownsRow B 209 3 (.slice (some ⟨gs, 0, none⟩) 1 cs) 1 [.slice none 0 0, .bool false, .bool false] ∧ w6.setCell ⟨wA.heap.size, 6, none⟩ (.slice (some ⟨gs, 0, none⟩) 1 cs) = w7)
  · intro HK
    refine wp_region_held_drew (S := fun _ => True) hmx trivial (fun _ => ?_)
    refine wpAnyH_take (i := 0) (v := .pointer (some ⟨wA.heap.size, 0, none⟩)) rfl (by kernel_rfl) (by kernel_rfl) (by kernel_rfl) (fun _ _ _ h => h) (Or.inl ⟨by rfl, fun W hSW => ?_⟩) trivial ?_
    · go_simp
    try simp only [Act.put, List.setIfInBounds_toArray]
    refine wpAnyH_take (i := 1) (v := .pointer (some ⟨wA.heap.size, 0, none⟩)) rfl (by kernel_rfl) (by kernel_rfl) (by kernel_rfl) (fun _ _ _ h => h) (Or.inl ⟨by rfl, fun W hSW => ?_⟩) trivial ?_
    · go_simp
    try simp only [Act.put]
    refine wpAnyH_take (i := 2) (v := .pointer (some ⟨wA.heap.size, 0, none⟩)) rfl (by kernel_rfl) (by kernel_rfl) (by kernel_rfl) (fun _ _ _ h => h) (Or.inl ⟨by rfl, fun W hSW => ?_⟩) trivial ?_
    · go_simp
    try simp only [Act.put]
    refine wpAnyH_take (i := 3) (v := .pointer (some ⟨wA.heap.size, 6, none⟩)) rfl (by kernel_rfl) (by kernel_rfl) (by kernel_rfl) (fun _ _ _ h => h) (Or.inl ⟨by rfl, fun W hSW => ?_⟩) trivial ?_
    · go_simp
    try simp only [Act.put]
    refine wpAnyH_take (i := 5) (v := .pointer (some ⟨wA.heap.size, 0, none⟩)) rfl (by kernel_rfl) (by kernel_rfl) (by kernel_rfl) (fun _ _ _ h => h) (Or.inl ⟨by rfl, fun W hSW => ?_⟩) trivial ?_
    · go_simp
    try simp only [Act.put]
    refine wpAnyH_take (i := 6) (v := .int .i64 0) rfl (by kernel_rfl) (by kernel_rfl) (by kernel_rfl) (fun _ _ _ h => h) (Or.inl ⟨by rfl, fun W hSW => ?_⟩) trivial ?_
    · go_simp
    try simp only [Act.put]
    refine wpAnyH_ready (rs := [4, 7]) (by kernel_rfl) (by simp) (AllReadyH.cons rfl (fun K hK => ?_) (AllReadyH.cons rfl (fun K hK => ?_) AllReadyH.nil))
    · go_simp
      refine hK.out _ _ trivial (fun _ => ?_)
      clear hK K
      refine wpAnyH_ready (rs := [7]) (by kernel_rfl) (by simp) (AllReadyH.cons rfl (fun K hK => ?_) AllReadyH.nil)
      go_simp
      refine (HST.out _ ⟨_, rfl⟩).mono ?_
      rintro e w4 ⟨rfl, HG4, k6⟩
      obtain ⟨gx, hgx⟩ : ∃ gx, w4.heap.size = gx := ⟨_, rfl⟩
      have k6a : ∀ o, (w4.alloc o).cell? ⟨wA.heap.size, 6, none⟩ = some (.slice none 0 0) := fun o => (FrS.none (S := fun _ => False) (fr_alloc w4 o none)).cell k6 (fun h => h)
      refine hK.out _ _ trivial (fun _ => ?_)
      clear hK K
      try simp only [Act.put, List.setIfInBounds_toArray, List.set_cons_zero, List.set_cons_succ]
      refine wpAnyH_ready (rs := [8]) (by kernel_rfl) (by simp) (AllReadyH.cons rfl (fun K hK => ?_) AllReadyH.nil)
      go_simp
      refine hK.out _ _ trivial (fun _ => ?_)
      clear hK K
      refine wpAnyH_ready (rs := [9]) (by kernel_rfl) (by simp) (AllReadyH.cons rfl (fun K hK => ?_) AllReadyH.nil)
      refine step_append_lies _ rfl _ _ 154 rfl B 209 i0 (.agg #[.slice none 0 0, .bool false, .bool false]) 3 32 Tryz.underlying154 hi hz0 hz1 hz2 rfl (by decide) (.slice none 0 0) 0 [] rfl (World.ownsRow_nil _ _ _ _) ⟨gx, 0, none⟩ 1 1 [.slice none 0 0, .bool false, .bool false] rfl rfl (fun j' u hj' => cell_new8 _ _ _ gx j' u hj' hgx) (fun u hu => by simp at hu; rcases hu with rfl | rfl <;> rfl) (by decide) (by unfold maxLen; omega) (by omega) (by have := HG4.out.size; simp; omega) _ rfl ?_
      intro gs cs w6 hown6 hg6 hat6 hlt6
      have hg46 : w4.grownBy w6 none := fr_both (fr_alloc _ _ none) hg6
      have m0 := (FrS.none (S := fun _ => False) hg46).cell k6 (fun h => h)
      have m1 := plan_thaw HE3.out (fr_both HG4.out hg46) 6
      have hgg := fr_both HG4.out hg46
      have hown7 := hown6
      simp only [List.nil_append, Nat.zero_add] at hown7
      refine hK.out _ _ trivial (fun _ => ?_)
      clear hK K
      simp only [Act.put, List.setIfInBounds_toArray, Nat.zero_add]
      refine wpAnyH_take (i := 10) (v := .pointer (some ⟨wA.heap.size, 0, none⟩)) rfl (by kernel_rfl) (by kernel_rfl) (by kernel_rfl) (fun _ _ _ h => h) (Or.inl ⟨by rfl, fun W hSW => ?_⟩) trivial ?_
      · go_simp
      try simp only [Act.put]
      refine wpAnyH_take (i := 11) (v := .pointer (some ⟨wA.heap.size, 6, none⟩)) rfl (by kernel_rfl) (by kernel_rfl) (by kernel_rfl) (fun _ _ _ h => h) (Or.inl ⟨by rfl, fun W hSW => ?_⟩) trivial ?_
      · go_simp
      try simp only [Act.put]
      obtain ⟨w7, hw7⟩ : ∃ w7, w6.setCell ⟨wA.heap.size, 6, none⟩ (.slice (some ⟨gs, 0, none⟩) 1 cs) = w7 := ⟨_, rfl⟩
      refine wpAnyH_ready (rs := [12]) (by kernel_rfl) (by simp) (AllReadyH.cons rfl (fun K hK => ?_) AllReadyH.nil)
      go_simp
      refine hK.out _ _ trivial (fun _ => ?_)
      clear hK K
      refine wpAnyH_done (by kernel_rfl) ?_ _
      exact HK gs cs gx w7 ⟨w6, hgg, hown7, hw7⟩
    · go_simp
      refine (HST.out _ ⟨_, rfl⟩).mono ?_
      rintro e w4 ⟨rfl, HG4, k6⟩
      obtain ⟨gx, hgx⟩ : ∃ gx, w4.heap.size = gx := ⟨_, rfl⟩
      have k6a : ∀ o, (w4.alloc o).cell? ⟨wA.heap.size, 6, none⟩ = some (.slice none 0 0) := fun o => (FrS.none (S := fun _ => False) (fr_alloc w4 o none)).cell k6 (fun h => h)
      refine hK.out _ _ trivial (fun _ => ?_)
      clear hK K
      try simp only [Act.put, List.setIfInBounds_toArray, List.set_cons_zero, List.set_cons_succ]
      refine wpAnyH_ready (rs := [4, 8]) (by kernel_rfl) (by simp) (AllReadyH.cons rfl (fun K hK => ?_) (AllReadyH.cons rfl (fun K hK => ?_) AllReadyH.nil))
      · go_simp
        refine hK.out _ _ trivial (fun _ => ?_)
        clear hK K
        refine wpAnyH_ready (rs := [8]) (by kernel_rfl) (by simp) (AllReadyH.cons rfl (fun K hK => ?_) AllReadyH.nil)
        go_simp
        refine hK.out _ _ trivial (fun _ => ?_)
        clear hK K
        refine wpAnyH_ready (rs := [9]) (by kernel_rfl) (by simp) (AllReadyH.cons rfl (fun K hK => ?_) AllReadyH.nil)
        refine step_append_lies _ rfl _ _ 154 rfl B 209 i0 (.agg #[.slice none 0 0, .bool false, .bool false]) 3 32 Tryz.underlying154 hi hz0 hz1 hz2 rfl (by decide) (.slice none 0 0) 0 [] rfl (World.ownsRow_nil _ _ _ _) ⟨gx, 0, none⟩ 1 1 [.slice none 0 0, .bool false, .bool false] rfl rfl (fun j' u hj' => cell_new8 _ _ _ gx j' u hj' hgx) (fun u hu => by simp at hu; rcases hu with rfl | rfl <;> rfl) (by decide) (by unfold maxLen; omega) (by omega) (by have := HG4.out.size; simp; omega) _ rfl ?_
        intro gs cs w6 hown6 hg6 hat6 hlt6
        have hg46 : w4.grownBy w6 none := fr_both (fr_alloc _ _ none) hg6
        have m0 := (FrS.none (S := fun _ => False) hg46).cell k6 (fun h => h)
        have m1 := plan_thaw HE3.out (fr_both HG4.out hg46) 6
        have hgg := fr_both HG4.out hg46
        have hown7 := hown6
        simp only [List.nil_append, Nat.zero_add] at hown7
        refine hK.out _ _ trivial (fun _ => ?_)
        clear hK K
        simp only [Act.put, List.setIfInBounds_toArray, Nat.zero_add]
        refine wpAnyH_take (i := 10) (v := .pointer (some ⟨wA.heap.size, 0, none⟩)) rfl (by kernel_rfl) (by kernel_rfl) (by kernel_rfl) (fun _ _ _ h => h) (Or.inl ⟨by rfl, fun W hSW => ?_⟩) trivial ?_
        · go_simp
        try simp only [Act.put]
        refine wpAnyH_take (i := 11) (v := .pointer (some ⟨wA.heap.size, 6, none⟩)) rfl (by kernel_rfl) (by kernel_rfl) (by kernel_rfl) (fun _ _ _ h => h) (Or.inl ⟨by rfl, fun W hSW => ?_⟩) trivial ?_
        · go_simp
        try simp only [Act.put]
        obtain ⟨w7, hw7⟩ : ∃ w7, w6.setCell ⟨wA.heap.size, 6, none⟩ (.slice (some ⟨gs, 0, none⟩) 1 cs) = w7 := ⟨_, rfl⟩
        refine wpAnyH_ready (rs := [12]) (by kernel_rfl) (by simp) (AllReadyH.cons rfl (fun K hK => ?_) AllReadyH.nil)
        go_simp
        refine hK.out _ _ trivial (fun _ => ?_)
        clear hK K
        refine wpAnyH_done (by kernel_rfl) ?_ _
        exact HK gs cs gx w7 ⟨w6, hgg, hown7, hw7⟩
      · go_simp
        refine hK.out _ _ trivial (fun _ => ?_)
        clear hK K
        refine wpAnyH_ready (rs := [4]) (by kernel_rfl) (by simp) (AllReadyH.cons rfl (fun K hK => ?_) AllReadyH.nil)
        go_simp
        refine hK.out _ _ trivial (fun _ => ?_)
        clear hK K
        refine wpAnyH_ready (rs := [9]) (by kernel_rfl) (by simp) (AllReadyH.cons rfl (fun K hK => ?_) AllReadyH.nil)
        refine step_append_lies _ rfl _ _ 154 rfl B 209 i0 (.agg #[.slice none 0 0, .bool false, .bool false]) 3 32 Tryz.underlying154 hi hz0 hz1 hz2 rfl (by decide) (.slice none 0 0) 0 [] rfl (World.ownsRow_nil _ _ _ _) ⟨gx, 0, none⟩ 1 1 [.slice none 0 0, .bool false, .bool false] rfl rfl (fun j' u hj' => cell_new8 _ _ _ gx j' u hj' hgx) (fun u hu => by simp at hu; rcases hu with rfl | rfl <;> rfl) (by decide) (by unfold maxLen; omega) (by omega) (by have := HG4.out.size; simp; omega) _ rfl ?_
        intro gs cs w6 hown6 hg6 hat6 hlt6
        have hg46 : w4.grownBy w6 none := fr_both (fr_alloc _ _ none) hg6
        have m0 := (FrS.none (S := fun _ => False) hg46).cell k6 (fun h => h)
        have m1 := plan_thaw HE3.out (fr_both HG4.out hg46) 6
        have hgg := fr_both HG4.out hg46
        have hown7 := hown6
        simp only [List.nil_append, Nat.zero_add] at hown7
        refine hK.out _ _ trivial (fun _ => ?_)
        clear hK K
        simp only [Act.put, List.setIfInBounds_toArray, Nat.zero_add]
        refine wpAnyH_take (i := 10) (v := .pointer (some ⟨wA.heap.size, 0, none⟩)) rfl (by kernel_rfl) (by kernel_rfl) (by kernel_rfl) (fun _ _ _ h => h) (Or.inl ⟨by rfl, fun W hSW => ?_⟩) trivial ?_
        · go_simp
        try simp only [Act.put]
        refine wpAnyH_take (i := 11) (v := .pointer (some ⟨wA.heap.size, 6, none⟩)) rfl (by kernel_rfl) (by kernel_rfl) (by kernel_rfl) (fun _ _ _ h => h) (Or.inl ⟨by rfl, fun W hSW => ?_⟩) trivial ?_
        · go_simp
        try simp only [Act.put]
        obtain ⟨w7, hw7⟩ : ∃ w7, w6.setCell ⟨wA.heap.size, 6, none⟩ (.slice (some ⟨gs, 0, none⟩) 1 cs) = w7 := ⟨_, rfl⟩
        refine wpAnyH_ready (rs := [12]) (by kernel_rfl) (by simp) (AllReadyH.cons rfl (fun K hK => ?_) AllReadyH.nil)
        go_simp
        refine hK.out _ _ trivial (fun _ => ?_)
        clear hK K
        refine wpAnyH_done (by kernel_rfl) ?_ _
        exact HK gs cs gx w7 ⟨w6, hgg, hown7, hw7⟩
  rintro gs cs gx w7 ⟨w6, hg6, hown6, hw7⟩
  have h6 := (hg6.block _ (by omega) (by simp)).trans HE3.out
  have HB7 : Hid (w7.heap[wA.heap.size]? = some (.cells (planC S (.slice (some ⟨gp, 0, none⟩) 1 cp) (.slice ba n bc) n 0 (.slice (some ⟨gs, 0, none⟩) 1 cs)) 156 (0, 0))) := by rw [← hw7]; exact blk_set h6 6 _
  have hf67 : FrS (fun j => j = wA.heap.size) w6 w7 := by rw [← hw7]; exact FrS.of (fr_set w6 _ 6 _) (fun g e => .inl (Option.some.inj e).symm)
  have HF17 : Hid (FrS (fun j => j = wA.heap.size) w1 w7) := FrS.trans (FrS.trans (S' := fun _ => False) HF2.out (FrS.none (fr_both HG3.out hg6)) (fun _ _ e => e.elim)) hf67 (fun j _ e => e)
  have hty : ∀ (W : World) (arr : Array Value), W.heap[wA.heap.size]? = some (.cells arr 156 (0, 0)) → ∀ gq cur e fz, W.heap[gq]? = some (.cells cur e fz) → e ≠ 156 → ¬ gq = wA.heap.size := by
    rintro W arr hW gq cur e fz hg he rfl
    rw [hW] at hg; injection hg with hg; injection hg with _ h3; exact he h3.symm
  have h1b := (HG1.out.block _ hsB (by simp)).trans HBB.out
  have HPL : Hid (Planned B wA.heap.size S R n (.slice (some ⟨gp, 0, none⟩) 1 cp) bv (.slice (some ⟨gs, 0, none⟩) 1 cs) vt w7) := by
    refine ⟨by rw [hbe]; exact HB7.out, ?_, ?_, ?_, by have := HGA.out.size; omega⟩
    · exact HF17.out.row (own_lower HVP.out (by have := HGW.out.size; omega)) (fun gq cur fz _ hg _ => hty w1 _ h1b gq cur _ fz hg (by decide))
    · exact HF17.out.row (HT.out.kept (fr_both HGW.out HG1.out) (by cases vt.ownBlock <;> simp)) (fun gq cur fz _ hg _ => hty w1 _ h1b gq cur _ fz hg (by decide))
    · exact hf67.row hown6 (fun gq cur fz _ hg _ => hty w6 _ h6 gq cur _ fz hg (by decide))
  have HGF : Hid (w.grownBy w7 none) := fr_far (fr_both HGW.out HG1.out) HF17.out (fun j hj e => by have := HGA.out.size; have e' : j = wA.heap.size := e; have := HSA.out; omega)
  clear hg6 hown6 hw7 h6 hf67 hty h1b
  go_wp2
  rw [rounds_succ]
  go_wp2
  go_ret
  have hpl := HPL.out
  rw [hbe] at hpl
  exact ⟨⟨_, _, _, rfl, hpl⟩, HGF.out⟩
end Go.Proofs.YtdfbjnachakkhaaGreatDoor
