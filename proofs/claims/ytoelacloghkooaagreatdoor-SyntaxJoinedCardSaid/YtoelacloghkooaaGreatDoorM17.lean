import Derived.Test.YtoelacloghkooaaGreatDoorM11
import Derived.Test.YtoelacloghkooaaGreatDoorM16
import Derived.Test.YtoelacloghkooaaGreatDoorM10
import Derived.Lib.Builder
import Derived.Lib.AppendStr
import Derived.Lib.UnsafeStr
/-
  (*strings.Replacer).Replace, and the program's Constant, walked.
-/
namespace Go.Proofs.YtoelacloghkooaaGreatDoor
open Go.ChangeShapes Go.WideShapes Go.ChangeAt Go.RowKit
set_option linter.unusedVariables false
theorem fr_any {w w' : World} (h : w.grownBy w' none) (r : Option Nat) : w.grownBy w' r := ⟨h.os, h.tape, h.output, h.size, fun k hk _ => h.block k hk (by simp)⟩
set_option maxRecDepth 100000 in
set_option maxHeartbeats 2000000 in
theorem buildOnce_any (b g cap : Nat) (w : World) (hkb : Kind w b 141) (h0 : w.cell? ⟨b, 0, none⟩ = some (.int .u32 0)) (h1 : w.cell? ⟨b, 1, none⟩ = some (.int .i32 1)) (h3 : w.cell? ⟨b, 3, none⟩ = some .nilIface) (h4 : w.cell? ⟨b, 4, none⟩ = some (.slice (some ⟨g, 0, none⟩) 6 cap))
    (f0 : w.frozen? ⟨b, 0, none⟩ = false) (f1 : w.frozen? ⟨b, 1, none⟩ = false) (f3 : w.frozen? ⟨b, 3, none⟩ = false) (f4 : w.frozen? ⟨b, 4, none⟩ = false) (hg : ∀ j u, six[j]? = some u → w.cell? ⟨g, j, none⟩ = some u) :
    Calls Tryz.prog 65 #[.pointer (some ⟨b, 0, none⟩)] w fun e w' => e = .returned (.tuple #[]) ∧ w'.cell? ⟨b, 0, none⟩ = some (.int .u32 0) ∧ w'.cell? ⟨b, 1, none⟩ = some (.int .i32 1) ∧ w'.frozen? ⟨b, 0, none⟩ = false ∧ w'.frozen? ⟨b, 1, none⟩ = false ∧
      ∃ R, w'.cell? ⟨b, 3, none⟩ = some (.iface 209 (.pointer (some ⟨R, 0, none⟩))) ∧ RepAt w.heap.size w' R 3 3 ∧ Kind w' b 141 ∧ w.grownBy w' (some b) := by
  have HBD := hide (build_any b g cap w h4 hg)
  have HK := hide hkb
  have HC : Hid (∀ w', w.grownBy w' none → w'.cell? ⟨b, 0, none⟩ = some (.int .u32 0) ∧ w'.cell? ⟨b, 1, none⟩ = some (.int .i32 1) ∧ w'.cell? ⟨b, 3, none⟩ = some .nilIface ∧ w'.cell? ⟨b, 4, none⟩ = some (.slice (some ⟨g, 0, none⟩) 6 cap) ∧ w'.frozen? ⟨b, 0, none⟩ = false ∧ w'.frozen? ⟨b, 1, none⟩ = false ∧ w'.frozen? ⟨b, 3, none⟩ = false ∧ w'.frozen? ⟨b, 4, none⟩ = false) := by
    intro w' hg'
    have hb := hg'.block b hkb.lt (by simp)
    exact ⟨grown_cell0 hg' h0, grown_cell0 hg' h1, grown_cell0 hg' h3, grown_cell0 hg' h4, (World.frozen?_of_block (a := ⟨b, 0, none⟩) hb).trans f0, (World.frozen?_of_block (a := ⟨b, 1, none⟩) hb).trans f1, (World.frozen?_of_block (a := ⟨b, 3, none⟩) hb).trans f3, (World.frozen?_of_block (a := ⟨b, 4, none⟩) hb).trans f4⟩
  clear hkb h0 h1 h3 h4 f0 f1 f3 f4 hg
  go_enter Tryz.func65, Tryz.ntmps65
  go_wp2_with fail
  refine HBD.out.mono ?_
  rintro e w1 ⟨R, rfl, hR, hrep, hg1⟩
  obtain ⟨c0, c1, c3, c4, z0, z1, z3, z4⟩ := HC.out w1 hg1
  have HG1 := hide hg1
  have HRP := hide hrep
  have hKb := HK.out.grown hg1 (by simp)
  have HK1 := hide hKb
  clear hg1 hrep hKb
  go_wp2
  go_end0
  have hgs : w1.grownBy ((w1.setCell ⟨b, 3, none⟩ (.iface 209 (.pointer (some ⟨R, 0, none⟩)))).setCell ⟨b, 4, none⟩ (.slice none 0 0)) (some b) := fr_both (fr_set _ _ _ _) (fr_set _ _ _ _)
  refine ⟨rfl, ?_, ?_, by simp [z0], by simp [z1], R, ?_, HRP.out.other hgs HK1.out (by decide) (by decide) (by decide), (HK1.out.set _ _).set _ _, fr_both (fr_any HG1.out _) hgs⟩
  · rw [World.cell?_setCell_other _ _ _ _ (by simp), World.cell?_setCell_other _ _ _ _ (by simp)]; exact c0
  · rw [World.cell?_setCell_other _ _ _ _ (by simp), World.cell?_setCell_other _ _ _ _ (by simp)]; exact c1
  · rw [World.cell?_setCell_other _ _ _ _ (by simp)]; exact World.cell?_setCell_same _ _ _ c3
theorem method_replace (a : Addr) (w : World) : (method 395 209 (.pointer (some a)) "Replace").run Tryz.prog w = .ok (185, .pointer (some a)) w := by kernel_rfl
set_option maxRecDepth 100000 in
set_option maxHeartbeats 2000000 in
theorem pReplacer_any (b : Nat) (s : ByteArray) (w : World) (h : NewRep w b) (hs : s.size ≤ 1073741824) :
    Calls Tryz.prog 34 #[.pointer (some ⟨b, 0, none⟩), .string s] w fun e w' => e = .returned (.string (str (escF s.data.toList))) ∧ w.grownBy w' (some b) := by
  obtain ⟨hkb, g, cap, hbx, hbg, hsix⟩ := h
  have hkb : Kind w b 141 := hkb
  have HK := hide hkb
  have d0 := hbx.c 0 _ rfl
  have d1 := hbx.c 1 _ rfl
  have d3 := hbx.c 3 _ rfl
  have d4 := hbx.c 4 _ rfl
  have f0 := hbx.f 0 _ rfl
  have f1 := hbx.f 1 _ rfl
  have f3 := hbx.f 3 _ rfl
  have f4 := hbx.f 4 _ rfl
  have hgs := fr_set w b 1 (.int .i32 1)
  have HB := hide (buildOnce_any b g cap (w.setCell ⟨b, 1, none⟩ (.int .i32 1)) (hkb.set _ _)
    ((World.cell?_setCell_other _ _ _ _ (by simp)).trans d0) (World.cell?_setCell_same _ _ _ d1) ((World.cell?_setCell_other _ _ _ _ (by simp)).trans d3) ((World.cell?_setCell_other _ _ _ _ (by simp)).trans d4)
    (by rw [World.frozen?_setCell]; exact f0) (by rw [World.frozen?_setCell]; exact f1) (by rw [World.frozen?_setCell]; exact f3) (by rw [World.frozen?_setCell]; exact f4)
    (fun j u hj => (World.cell?_setCell_other _ _ _ _ (fun e => hbg (by simpa using congrArg Addr.block e))).trans (hsix j u hj)))
  have HDO := hide (do_any b (fun w' => ∃ R, w'.cell? ⟨b, 3, none⟩ = some (.iface 209 (.pointer (some ⟨R, 0, none⟩))) ∧ RepAt (w.setCell ⟨b, 1, none⟩ (.int .i32 1)).heap.size w' R 3 3 ∧ Kind w' b 141 ∧ (w.setCell ⟨b, 1, none⟩ (.int .i32 1)).grownBy w' (some b)) w d0 d1 f0 f1 HB)
  have hmf : ∀ (fn : Fn) (first cap : Array Value) (w : World), (Instr.makeFunc fn first cap).run Tryz.prog w = .ok (.func fn first cap) w := fun _ _ _ _ => rfl
  clear hbx hsix d0 d1 d3 d4 f0 f1 f3 f4 hgs HB hkb
  go_enter Tryz.func34, Tryz.ntmps34
  go_wp2_with fail
  refine HDO.out.mono ?_
  rintro e w1 ⟨rfl, w2, ⟨R, hc3, hrep, hk2, hg2⟩, rfl⟩
  have HG2 := hide (fr_both (fr_set w b 1 (.int .i32 1)) hg2)
  have hg3 : w2.grownBy ((w2.drew.setCell ⟨b, 0, none⟩ (.int .u32 1)).setCell ⟨b, 1, none⟩ (.int .i32 0)) (some b) := fr_both (fr_both (fr_draws w2 1 _) (fr_set _ _ _ _)) (fr_set _ _ _ _)
  have HR3 := hide (hrep.other hg3 hk2 (by decide) (by decide) (by decide))
  have HG3 := hide (fr_both HG2.out hg3)
  have c3 : ((w2.drew.setCell ⟨b, 0, none⟩ (.int .u32 1)).setCell ⟨b, 1, none⟩ (.int .i32 0)).cell? ⟨b, 3, none⟩ = some (.iface 209 (.pointer (some ⟨R, 0, none⟩))) := by
    rw [World.cell?_setCell_other _ _ _ _ (by simp), World.cell?_setCell_other _ _ _ _ (by simp)]; exact hc3
  clear hg3 hrep hk2 hg2 hc3 HDO
  generalize (w2.drew.setCell ⟨b, 0, none⟩ (.int .u32 1)).setCell ⟨b, 1, none⟩ (.int .i32 0) = w3 at *
  have hme := method_replace ⟨R, 0, none⟩
  have hE : ∀ args w, (callFunc 185 args).run Tryz.prog w = .ok (.enter 185 args) w := enters_of Tryz.func185 (by kernel_rfl) rfl
  go_wp2_with fail
  refine (preplace_any _ R s _ HR3.out hs).mono ?_
  rintro e w4 ⟨rfl, hg4⟩
  have HG4 := hide (fr_both HG3.out (fr_any hg4 _))
  clear hg4
  go_wp2
  go_ret
  exact ⟨rfl, HG4.out⟩
set_option maxRecDepth 100000 in
set_option maxHeartbeats 2000000 in
theorem pConstant_any (s : ByteArray) (w : World) (hs : s.size ≤ 1073741824) :
    Calls Tryz.prog 14 #[.string s] w fun e w' => e = .returned (.string (str (constF s.data.toList))) ∧ w.grownBy w' none := by
  have HCF : Hid (constF s.data.toList = if isName s.data.toList || isDigB s.data.toList then s.data.toList else [34] ++ escF s.data.toList ++ [34]) := (rfl : _ = _)
  obtain ⟨N, HN⟩ : ∃ N, Hid (isName s.data.toList = N) := ⟨_, (rfl : _ = _)⟩
  obtain ⟨D, HD⟩ : ∃ D, Hid (isDigB s.data.toList = D) := ⟨_, (rfl : _ = _)⟩
  rw [HN.out, HD.out] at HCF
  go_enter Tryz.func14, Tryz.ntmps14
  go_wp2_with fail
  refine (name_any s _ (by omega)).mono ?_
  rintro e w1 ⟨rfl, rfl⟩
  rw [HN.out]
  cases N with
  | true =>
    go_wp2
    go_ret
    exact ⟨ret_str (by rw [HCF.out]; simp [str_data]), fr_refl _ _⟩
  | false =>
    go_wp2_with fail
    refine (isDig_any s _).mono ?_
    rintro e w1 ⟨rfl, rfl⟩
    rw [HD.out]
    cases D with
    | true =>
      go_wp2
      go_ret
      exact ⟨ret_str (by rw [HCF.out]; simp [str_data]), fr_refl _ _⟩
    | false =>
      have HEL := hide (escF_len s.data.toList)
      have hl0 : s.data.toList.length = s.size := by simp
      obtain ⟨X, HX⟩ : ∃ X, Hid (str (escF s.data.toList) = X) := ⟨_, (rfl : _ = _)⟩
      have hX : X.size ≤ 2147483648 := by rw [← HX.out, str_size]; have := HEL.out; omega
      have HE : Hid (str (constF s.data.toList) = str [34] ++ X ++ str [34]) := by
        show _ = _
        rw [HCF.out, ← HX.out, str_app, str_app]; rfl
      clear hl0
      go_wp2_with fail
      generalize hw1 : World.alloc _ _ = w1
      have HG1 : Hid (w.grownBy w1 none) := by rw [← hw1]; exact fr_alloc _ _ _
      have HSX : Hid (∀ j u, six[j]? = some u → w1.cell? ⟨w.heap.size, j, none⟩ = some u) := by
        intro j u hj
        rw [← hw1, World.cell?_alloc_at _ _ _ _ rfl, ← Array.getElem?_toList]
        exact hj
      clear hw1
      refine (newReplacer_any w.heap.size w1 HSX.out).mono ?_
      rintro e w2 ⟨⟨b, rfl, hb, hb2, hnew⟩, hg2⟩
      have HNW := hide hnew
      have HG2 := hide (fr_both HG1.out hg2)
      have hbw : w.heap.size ≤ b := Nat.le_trans HG1.out.size hb
      clear hnew hg2
      have HRC : Hid (∀ wx : World, (∃ n, wx = w2.drewN n) → Calls Tryz.prog 34 #[.pointer (some ⟨b, 0, none⟩), .string s] wx fun e w' => e = .returned (.string X) ∧ Hid (w.grownBy w' none)) := by
        rintro wx ⟨n, rfl⟩
        have h2 : NewRep (w2.drewN n) b := by
          obtain ⟨hk, g, cap, hbx, hbg, hsx⟩ := HNW.out
          exact ⟨hk, g, cap, ⟨hbx.c, hbx.f⟩, hbg, hsx⟩
        refine (pReplacer_any b s _ h2 hs).mono ?_
        rintro e w3 ⟨rfl, hg3⟩
        rw [HX.out]
        exact ⟨rfl, fr_trans (fr_both HG2.out (fr_draws _ _ _)) hg3 (fun g hg => by cases hg; exact Or.inr hbw)⟩
      go_wp2_with fail
      refine (HRC.out _ ⟨0, rfl⟩).mono ?_
      rintro e w3 ⟨rfl, HG3⟩
      go_wp2
      go_ret
      exact ⟨ret_str HE.out.symm, HG3.out⟩
end Go.Proofs.YtoelacloghkooaaGreatDoor

/-
  strings.Builder within the program's printer, walked.
-/
namespace Go.Proofs.YtoelacloghkooaaGreatDoor
open Go.ChangeShapes Go.WideShapes Go.ChangeAt Go.RowKit
set_option linter.unusedVariables false
theorem sizeBuilder : (Tryz.prog.info? 51).map (·.size) = some 2 := by kernel_rfl
theorem liesBuilder : liesAt Tryz.prog Tryz.prog.depth 53 (2 / Tryz.prog.cellsOf 53) 0 51 1 = true := by kernel_rfl
theorem cellsByte : Tryz.prog.cellsOf 5 = 1 := by kernel_rfl
/-- a printer that holds these bytes -/
abbrev PB (B b : Nat) (l : List UInt8) (w : World) : Prop := Lib.IsBuilder 53 5 B b (bs l) w
theorem strCells_bs (s : ByteArray) : Lib.strCells s = bs s.data.toList := rfl
theorem builder_kept {T e : TypeId} {B b : Nat} {p : Value} {xs : List Value} {w w' : World} (h : Lib.BuilderAt T e B b p xs w) (hg : w.grownBy w' none) : Lib.BuilderAt T e B b p xs w' := by
  have hlt := h.lt
  obtain ⟨hB, v, hb, hown, hne⟩ := h
  exact ⟨hB, v, (hg.block b hlt (by simp)).trans hb, own_far hown hg (fun _ _ => by simp), hne⟩
theorem PB.kept {B b : Nat} {l : List UInt8} {w w' : World} (h : PB B b l w) (hg : w.grownBy w' none) : PB B b l w' := by
  rcases h with h | h
  · exact Or.inl (builder_kept h hg)
  · exact Or.inr (builder_kept h hg)
theorem PB.lt {B b : Nat} {l : List UInt8} {w : World} (h : PB B b l w) : b < w.heap.size := by
  rcases h with h | h
  · exact h.lt
  · exact h.lt
/-- what a writing call of the printer leaves as it was: all below B; and all blocks that are no printer's and no bytes -/
structure PF (B : Nat) (w w' : World) : Prop where
  below : Below B w w'
  keep : ∀ (k : Nat) (t : TypeId), Kind w k t → t ≠ 53 → t ≠ 5 → w'.heap[k]? = w.heap[k]?
theorem PF.refl (B : Nat) (w : World) : PF B w w := ⟨Below.refl _ _, fun _ _ _ _ _ => rfl⟩
theorem PF.trans {B : Nat} {a b c : World} (h : PF B a b) (k : PF B b c) : PF B a c := ⟨h.below.trans k.below, fun j t hj h1 h2 => by
  have e1 := h.keep j t hj h1 h2
  exact (k.keep j t (hj.far e1) h1 h2).trans e1⟩
theorem PF.fresh {B : Nat} {w w' : World} (h : w.grownBy w' none) (hB : B ≤ w.heap.size) : PF B w w' := ⟨⟨h.os, h.tape, h.output, h.size, fun k hk => h.block k (by omega) (by simp)⟩, fun k t hk _ _ => h.block k hk.lt (by simp)⟩
theorem PF.own {B : Nat} {w w' : World} {base : Nat} {e : TypeId} {size : Nat} {v : Value} {n : Nat} {xs : List Value} (ho : w.ownsRow base e size v n xs) (h : PF B w w') (h1 : e ≠ 53) (h2 : e ≠ 5) : w'.ownsRow base e size v n xs := by
  refine ⟨ho.1, ?_⟩
  rcases ho.2 with h3 | ⟨g, cap, cur, hv, hbg, hg, rest⟩
  · exact Or.inl h3
  · exact Or.inr ⟨g, cap, cur, hv, hbg, (h.keep g e ⟨_, _, hg⟩ h1 h2).trans hg, rest⟩
set_option maxHeartbeats 1000000 in
set_option maxRecDepth 100000 in
theorem pcheck_used (b : Nat) (w : World) (h0 : w.cell? ⟨b, 0, none⟩ = some (.pointer (some ⟨b, 0, none⟩))) :
    Calls Tryz.prog 72 #[.pointer (some ⟨b, 0, none⟩)] w fun e w' => e = .returned (.tuple #[]) ∧ w' = w := by
  obtain ⟨j, hj, _⟩ := Option.map_eq_some_iff.1 sizeBuilder
  go_enter Tryz.func72, Tryz.ntmps72
  go_wp2
  rw [Lib.run_neq_ptr_same w _ Tryz.underlying48 hj]
  go_wp2
  go_end0
  exact ⟨rfl, rfl⟩
set_option maxHeartbeats 1000000 in
set_option maxRecDepth 100000 in
theorem pcheck_fresh (b : Nat) (w : World) (h0 : w.cell? ⟨b, 0, none⟩ = some (.pointer none)) (hsh : w.shape? b = some (53, 2)) (hfz : w.frozen? ⟨b, 0, none⟩ = false) :
    Calls Tryz.prog 72 #[.pointer (some ⟨b, 0, none⟩)] w fun e w' => e = .returned (.tuple #[]) ∧ w' = w.setCell ⟨b, 0, none⟩ (.pointer (some ⟨b, 0, none⟩)) := by
  obtain ⟨j, hj, hjs⟩ := Option.map_eq_some_iff.1 sizeBuilder
  go_enter Tryz.func72, Tryz.ntmps72
  go_wp2
  rw [Lib.run_to_unsafe w ⟨b, 0, none⟩ Tryz.underlying48 Tryz.underlying155 hj (by rw [hjs]; decide) hsh (Nat.zero_lt_succ 1)]
  simp only [Result.andThen]
  rw [Oper.upon_value]
  go_wp2
  rw [run_callFunc_extern Tryz.func94 (by kernel_rfl) (by kernel_rfl) (by kernel_rfl) (e := Extern.AbiNoEscape.same) (by kernel_rfl)]
  rw [Lib.run_noEscape]
  simp only [Result.andThen]
  rw [Oper.upon_value]
  go_wp2
  rw [Lib.run_from_unsafe w ⟨b, 0, none⟩ Tryz.underlying155 Tryz.underlying48 hj hsh liesBuilder]
  simp only [Result.andThen]
  rw [Oper.upon_value]
  go_wp2
  go_end0
  exact ⟨rfl, rfl⟩
theorem pcheck_any (B b : Nat) (l : List UInt8) (w : World) (h : PB B b l w) :
    Calls Tryz.prog 72 #[.pointer (some ⟨b, 0, none⟩)] w fun e w' => e = .returned (.tuple #[]) ∧ (Lib.BuilderAt 53 5 B b (.pointer (some ⟨b, 0, none⟩)) (bs l) w' ∧ PF B w w') := by
  rcases h with h | h
  · refine (pcheck_fresh b w h.cell0 h.shape h.frozen0).mono ?_
    rintro e w' ⟨rfl, rfl⟩
    exact ⟨rfl, h.used _, (Below.refl B w).setCell (p := ⟨b, 0, none⟩) h.1 _, fun k t hk h1 _ => Below.heap_setCell _ _ _ _ (fun e => by
      have e2 : k = b := e
      subst e2
      obtain ⟨_, v, hb, _⟩ := h
      exact hk.ne ⟨_, _, hb⟩ h1 rfl)⟩
  · refine (pcheck_used b w h.cell0).mono ?_
    rintro e w' ⟨rfl, rfl⟩
    exact ⟨rfl, h, PF.refl B _⟩
set_option maxHeartbeats 2000000 in
set_option maxRecDepth 100000 in
theorem pwrite_any (B b : Nat) (l : List UInt8) (s : ByteArray) (w : World) (h : PB B b l w) (hlen : l.length + s.size ≤ 140737488355328) (hBw : B ≤ w.heap.size) :
    Calls Tryz.prog 40 #[.pointer (some ⟨b, 0, none⟩), .string s] w fun e w' => e = .returned (.tuple #[.int .i64 s.size, .nilIface]) ∧ PB B b (l ++ s.data.toList) w' ∧ PF B w w' := by
  obtain ⟨i0, hi, hz0, hz1, hz2⟩ := info_parts info5
  go_enter Tryz.func40, Tryz.ntmps40
  go_wp2_with (go_at_call 72; refine (pcheck_any B b l _ h).mono ?_)
  rintro e w1 ⟨rfl, h1, hpf1⟩
  have hb1 := hpf1.below
  obtain ⟨hB, v, hbk, hown, hne⟩ := h1
  have c0 : w1.cell? ⟨b, 0, none⟩ = some (.pointer (some ⟨b, 0, none⟩)) := by rw [Lib.cell_of_heap hbk]; rfl
  have c1 : w1.cell? ⟨b, 1, none⟩ = some v := by rw [Lib.cell_of_heap hbk]; rfl
  rw [bs_length] at hown
  go_wp2_with (at_builtin; refine Lib.wpList_append_own_string _ rfl _ _ 49 9 rfl B 5 i0 Tryz.underlying49 Tryz.underlying9 hi hz0 hz1 hz2 _ _ _ rfl hown s rfl ?c3 ?c4 ?c5 ?_)
  case c3 => unfold maxLen; omega
  case c4 => omega
  case c5 => have := hb1.size; omega
  intro v' w2 hown' hgrow _
  have hlt : b < w1.heap.size := by
    rcases Nat.lt_or_ge b w1.heap.size with h' | h'
    · exact h'
    · simp [Array.getElem?_eq_none h'] at hbk
  have hb2 : w2.heap[b]? = some (.cells #[.pointer (some ⟨b, 0, none⟩), v] 53 (0, 0)) := by
    rw [hgrow.block b hlt (fun e => hne e.symm)]
    exact hbk
  have d0 : w2.cell? ⟨b, 0, none⟩ = some (.pointer (some ⟨b, 0, none⟩)) := by rw [Lib.cell_of_heap hb2]; rfl
  have d1 : w2.cell? ⟨b, 1, none⟩ = some v := by rw [Lib.cell_of_heap hb2]; rfl
  have f1 : w2.frozen? ⟨b, 1, none⟩ = false := Lib.frozen_of_heap hb2 1
  obtain ⟨ao, n', cap, rfl⟩ : ∃ ao n' cap, v' = .slice ao n' cap := by
    rcases hown'.2 with ⟨hv, _⟩ | ⟨g, cap, cur, hv, _⟩
    · exact ⟨_, _, _, hv⟩
    · exact ⟨_, _, _, hv⟩
  go_wp2
  go_ret2
  refine ⟨rfl, Or.inr ?_, ?_⟩
  · exact Lib.BuilderAt.put (T := 53) (e := 5) hB hb2 (bs' := bs (l ++ s.data.toList)) (by rw [bs_length, List.length_append, ← bs_app, ← strCells_bs]; simpa using hown') (by decide)
  · refine hpf1.trans ⟨((Below.refl B w1).grown hgrow (by have := hb1.size; omega) (fun k hk => (hown.lt k hk).1)).setCell (p := ⟨b, 1, none⟩) hB _, fun k t hk h1 h2 => ?_⟩
    have e1 : w2.heap[k]? = w1.heap[k]? := hgrow.block k hk.lt (fun e => hk.ne (own_kind hown e.symm) h2 rfl)
    rw [Below.heap_setCell _ _ _ _ (fun e => by
      have e2 : k = b := e
      subst e2
      exact hk.ne ⟨_, _, hbk⟩ h1 rfl), e1]
set_option maxHeartbeats 1000000 in
set_option maxRecDepth 100000 in
theorem pstr_some (B b : Nat) (l : List UInt8) (w : World) (h : PB B b l w) (h0 : l ≠ []) :
    Calls Tryz.prog 18 #[.pointer (some ⟨b, 0, none⟩)] w fun e w' => e = .returned (.string (str l)) ∧ Below B w w' := by
  obtain ⟨p, hB, v, hbk, hown, hne⟩ : ∃ p, Lib.BuilderAt 53 5 B b p (bs l) w := by
    rcases h with h | h
    · exact ⟨_, h⟩
    · exact ⟨_, h⟩
  have hl0 : l.length ≠ 0 := by simpa using h0
  rw [bs_length] at hown
  obtain ⟨g, cap, cur, rfl, hbg, hg, hnc, hcm, hcs, htake⟩ : ∃ g cap cur, v = .slice (some ⟨g, 0, none⟩) l.length cap ∧ B ≤ g ∧ w.heap[g]? = some (.cells cur 5 (0, 0)) ∧ l.length ≤ cap ∧ cap ≤ maxLen ∧ cur.size = cap * 1 ∧ cur.toList.take (l.length * 1) = bs l := by
    rcases hown.2 with ⟨_, hz⟩ | ⟨g, cap, cur, hv, r⟩
    · exact absurd hz hl0
    · exact ⟨g, cap, cur, hv, r⟩
  have c1 : w.drew.cell? ⟨b, 1, none⟩ = some (.slice (some ⟨g, 0, none⟩) l.length cap) := by
    have : w.drew.heap[b]? = some (.cells #[p, .slice (some ⟨g, 0, none⟩) l.length cap] 53 (0, 0)) := hbk
    rw [Lib.cell_of_heap this]; rfl
  have hSD : (Builtin.unsafeSliceData_ #[49] 98 #[.slice (some ⟨g, 0, none⟩) l.length cap]).run Tryz.prog w.drew = .ok (.pointer (some ⟨g, 0, none⟩)) w.drew :=
    Lib.run_unsafeSliceData_row _ _ _ _ _ _ (by omega)
  have hUS : (Builtin.unsafeString_ #[98, 3] 9 #[.pointer (some ⟨g, 0, none⟩), .int .i64 l.length]).run Tryz.prog w.drew = .ok (.string (str l)) (w.drew.freeze ⟨g, 0, none⟩ l.length) := by
    refine Lib.run_unsafeString_row w.drew 98 3 9 5 Tryz.underlying98 cellsByte g cur.size (by have hg' : w.drew.heap[g]? = some (.cells cur 5 (0, 0)) := hg; simp [World.shape?, hg']) l h0 (by omega) (by unfold maxLen at hcm; omega) ?_
    intro j x hx
    have := hown.cells (g := g) rfl j (.int .u8 x.toNat) (by simp [bs, hx])
    exact this
  go_enter Tryz.func18, Tryz.ntmps18
  go_wp2
  go_region
  all_goals (go_wp2; go_ret; exact ⟨rfl, Lib.below_freeze (Below.drew (Below.refl B w)) (p := ⟨g, 0, none⟩) hbg _⟩)
set_option maxHeartbeats 1000000 in
set_option maxRecDepth 100000 in
theorem pstr_none (B b : Nat) (p : Value) (w : World) (hbk : w.heap[b]? = some (.cells #[p, .slice none 0 0] 53 (0, 0))) :
    Calls Tryz.prog 18 #[.pointer (some ⟨b, 0, none⟩)] w fun e w' => e = .returned (.string (str [])) ∧ Below B w w' := by
  have hUS : ∀ (W : World) (q : Option Addr), (Builtin.unsafeString_ #[98, 3] 9 #[.pointer q, .int .i64 0]).run Tryz.prog W = .ok (.string .empty) W := fun W q => Lib.run_unsafeString_none W _ _ _ q
  have c1 : w.drew.cell? ⟨b, 1, none⟩ = some (.slice none 0 0) := by
    have : w.drew.heap[b]? = some (.cells #[p, .slice none 0 0] 53 (0, 0)) := hbk
    rw [Lib.cell_of_heap this]; rfl
  have hSD : (Builtin.unsafeSliceData_ #[49] 98 #[.slice none 0 0]).run Tryz.prog w.drew = .ok (.pointer none) w.drew := rfl
  go_enter Tryz.func18, Tryz.ntmps18
  go_wp2
  go_region
  all_goals (go_wp2; go_ret; exact ⟨rfl, Below.drew (Below.refl B w)⟩)
end Go.Proofs.YtoelacloghkooaaGreatDoor

/-
  A text with bytes ahead of it: the same signs, further on. Plain lists; nothing of the program.
-/
namespace Go.Proofs.YtoelacloghkooaaGreatDoor
set_option linter.unusedVariables false
def shX (d : Nat) {α : Type} (f : α → α) : Except PErr (α × Nat) → Except PErr (α × Nat)
  | .error (e, x) => .error (e, d + x)
  | .ok (a, q) => .ok (f a, d + q)
def shT (d : Nat) (t : PTerm) : PTerm := ⟨t.isVar, t.text, d + t.place⟩
def shA (d : Nat) (a : PAtom) : PAtom := ⟨a.name, a.args.map (shT d), d + a.place⟩
def shP (d : Nat) (p : PPart) : PPart := if p.kind < 2 then ⟨p.kind, shA d p.atom, p.left, p.right⟩ else ⟨p.kind, p.atom, shT d p.left, shT d p.right⟩
def shR (d : Nat) (r : PRule) : PRule := ⟨shA d r.head, r.body.map (shP d)⟩
theorem drop_pre (pre l : List UInt8) (p : Nat) : (pre ++ l).drop (pre.length + p) = l.drop p := by
  rw [List.drop_append]; simp
theorem skip_pre (pre l : List UInt8) (p : Nat) : skipTo (pre ++ l) (pre.length + p) = pre.length + skipTo l p := by
  unfold skipTo; rw [drop_pre]; omega
theorem word_pre (pre l : List UInt8) (p : Nat) : wordAt (pre ++ l) (pre.length + p) = wordAt l p := by unfold wordAt; rw [drop_pre]
theorem starts_pre (pre l : List UInt8) (p : Nat) (sg : List UInt8) : starts (pre ++ l) (pre.length + p) sg = starts l p sg := by unfold starts; rw [drop_pre]
theorem name_pre (pre l : List UInt8) (p : Nat) : atNameB (pre ++ l) (pre.length + p) = atNameB l p := by unfold atNameB; rw [word_pre]
theorem term_pre0 (pre l : List UInt8) (p : Nat) : atTermB (pre ++ l) (pre.length + p) = atTermB l p := by unfold atTermB; rw [word_pre, starts_pre]
theorem part_pre0 (pre l : List UInt8) (p : Nat) : atPartB (pre ++ l) (pre.length + p) = atPartB l p := by unfold atPartB; rw [word_pre, term_pre0]
theorem sign_pre (pre l : List UInt8) (sg : List UInt8) (p : Nat) : signF (pre ++ l) sg (pre.length + p) = (signF l sg p).map (pre.length + ·) := by
  unfold signF
  rw [starts_pre]
  split
  · rw [Nat.add_assoc, skip_pre]; rfl
  · rfl
theorem str_pre (d : Nat) (l : List UInt8) : ∀ (n p : Nat) (acc : List UInt8), l.length ≤ n → strGo l (d + p) acc = shX d id (strGo l p acc) := by
  intro n
  induction n generalizing l with
  | zero => intro p acc h; cases l with
    | nil => unfold strGo; rfl
    | cons c t => simp at h
  | succ n ih =>
    intro p acc h
    cases l with
    | nil => unfold strGo; rfl
    | cons c t =>
      unfold strGo
      by_cases h1 : c = 34
      · rw [if_pos h1, if_pos h1]; rfl
      · rw [if_neg h1, if_neg h1]
        by_cases h2 : c = 10
        · rw [if_pos h2, if_pos h2]; rfl
        · rw [if_neg h2, if_neg h2]
          by_cases h3 : c = 92
          · rw [if_pos h3, if_pos h3]
            cases t with
            | nil => rfl
            | cons e t2 =>
              simp only []
              by_cases h4 : e = 110
              · rw [if_pos h4, if_pos h4, Nat.add_assoc]; exact ih t2 (p + 2) _ (by simp at h; omega)
              · rw [if_neg h4, if_neg h4]
                by_cases h5 : e = 34 ∨ e = 92
                · rw [if_pos h5, if_pos h5, Nat.add_assoc]; exact ih t2 (p + 2) _ (by simp at h; omega)
                · rw [if_neg h5, if_neg h5]; rfl
          · rw [if_neg h3, if_neg h3, Nat.add_assoc]; exact ih t (p + 1) _ (by simpa using h)
theorem termF_pre (pre l : List UInt8) (p : Nat) : termF (pre ++ l) (pre.length + p) = shX pre.length (shT pre.length) (termF l p) := by
  unfold termF
  rw [starts_pre, term_pre0, word_pre]
  by_cases h1 : starts l p [34] = true
  · rw [if_pos h1, if_pos h1, Nat.add_assoc, drop_pre, str_pre _ _ _ _ _ (Nat.le_refl _)]
    cases strGo (l.drop (p + 1)) (p + 1) [] with
    | error e => obtain ⟨e, x⟩ := e; rfl
    | ok v =>
      obtain ⟨o, q⟩ := v
      simp only [shX, id]
      split
      · rfl
      · rw [skip_pre]; rfl
  · rw [if_neg h1, if_neg h1]
    split
    · rw [Nat.add_assoc, skip_pre]; rfl
    · rfl
theorem listF_pre {α : Type} (d : Nat) (f : α → α) (bg bg' : Nat → Bool) (one one' : Nat → Except PErr (α × Nat)) (go go' : Nat → Option Nat) (h1 : ∀ p, bg' (d + p) = bg p) (h2 : ∀ p, one' (d + p) = shX d f (one p)) (h3 : ∀ p, go' (d + p) = (go p).map (d + ·)) :
    ∀ (n p : Nat), listF bg' one' go' n (d + p) = shX d (List.map f) (listF bg one go n p) := by
  intro n
  induction n with
  | zero => intro p; unfold listF; rw [h1]; split <;> rfl
  | succ n ih =>
    intro p
    unfold listF
    rw [h1, h2]
    split
    · cases one p with
      | error e => obtain ⟨e, x⟩ := e; rfl
      | ok v =>
        obtain ⟨x, q⟩ := v
        simp only [shX]
        rw [h3]
        cases go q with
        | none => rfl
        | some r =>
          simp only [Option.map]
          rw [ih]
          cases listF bg one go n r with
          | error e => obtain ⟨e, x⟩ := e; rfl
          | ok v => obtain ⟨xs, r2⟩ := v; rfl
    · rfl
theorem atomF_pre (pre l : List UInt8) (p : Nat) : atomF (pre ++ l) (pre.length + p) = shX pre.length (shA pre.length) (atomF l p) := by
  unfold atomF
  rw [name_pre, word_pre, Nat.add_assoc, skip_pre, sign_pre]
  split
  · cases signF l [40] (skipTo l (p + (wordAt l p).length)) with
    | none => rfl
    | some q =>
      simp only [Option.map]
      rw [listF_pre pre.length (shT pre.length) (atTermB l) (atTermB (pre ++ l)) (termF l) (termF (pre ++ l)) (signF l [44]) (signF (pre ++ l) [44]) (term_pre0 pre l) (termF_pre pre l) (sign_pre pre l [44])]
      cases listF (atTermB l) (termF l) (signF l [44]) 8 q with
      | error e => obtain ⟨e, x⟩ := e; rfl
      | ok v =>
        obtain ⟨xs, r⟩ := v
        simp only [shX]
        rw [sign_pre]
        cases signF l [41] r with
        | none => rfl
        | some r2 => rfl
  · rfl
theorem compF_pre (pre l : List UInt8) (p : Nat) : compF (pre ++ l) (pre.length + p) = (compF l p).map (fun kq => (kq.1, pre.length + kq.2)) := by
  unfold compF
  rw [sign_pre, sign_pre, sign_pre]
  cases signF l [61] p with
  | some q => rfl
  | none =>
    simp only [Option.map]
    cases signF l [33, 61] p with
    | some q => rfl
    | none =>
      simp only []
      cases signF l [60] p with
      | some q => rfl
      | none => rfl
theorem compF_kind (l : List UInt8) (p k q : Nat) (h : compF l p = some (k, q)) : k = 2 ∨ k = 3 ∨ k = 4 := by
  unfold compF at h
  split at h
  · cases h; simp
  · split at h
    · cases h; simp
    · split at h
      · cases h; simp
      · cases h
theorem partF_pre (pre l : List UInt8) (p : Nat) : partF (pre ++ l) (pre.length + p) = shX pre.length (shP pre.length) (partF l p) := by
  unfold partF
  rw [word_pre, name_pre, Nat.add_assoc, skip_pre, Nat.add_assoc, skip_pre, compF_pre]
  by_cases h1 : wordAt l p = [110, 111, 116]
  · rw [if_pos h1, if_pos h1, atomF_pre]
    cases atomF l (skipTo l (p + 3)) with
    | error e => obtain ⟨e, x⟩ := e; rfl
    | ok v => obtain ⟨a, q⟩ := v; rfl
  · rw [if_neg h1, if_neg h1, Option.isNone_map]
    split
    · rw [atomF_pre]
      cases atomF l p with
      | error e => obtain ⟨e, x⟩ := e; rfl
      | ok v => obtain ⟨a, q⟩ := v; rfl
    · rw [termF_pre]
      cases termF l p with
      | error e => obtain ⟨e, x⟩ := e; rfl
      | ok v =>
        obtain ⟨t, q⟩ := v
        simp only [shX]
        rw [compF_pre]
        cases hc : compF l q with
        | none => rfl
        | some kq =>
          obtain ⟨k, r⟩ := kq
          simp only [Option.map]
          rw [termF_pre]
          cases termF l r with
          | error e => obtain ⟨e, x⟩ := e; rfl
          | ok v =>
            obtain ⟨u, r2⟩ := v
            simp only [shX, shP]
            rw [if_neg (by rcases compF_kind l q k r hc with rfl | rfl | rfl <;> decide)]
theorem ruleF_pre (pre l : List UInt8) (p : Nat) : ruleF (pre ++ l) (pre.length + p) = shX pre.length (shR pre.length) (ruleF l p) := by
  unfold ruleF
  rw [atomF_pre]
  cases atomF l p with
  | error e => obtain ⟨e, x⟩ := e; rfl
  | ok v =>
    obtain ⟨h, q⟩ := v
    simp only [shX]
    rw [sign_pre]
    cases signF l [58, 45] q with
    | none =>
      simp only [Option.map]
      rw [sign_pre]
      cases signF l [46] q with
      | none => rfl
      | some r => rfl
    | some r =>
      simp only [Option.map]
      unfold partsF
      rw [listF_pre pre.length (shP pre.length) (atPartB l) (atPartB (pre ++ l)) (partF l) (partF (pre ++ l)) (signF l [44]) (signF (pre ++ l) [44]) (part_pre0 pre l) (partF_pre pre l) (sign_pre pre l [44])]
      cases listF (atPartB l) (partF l) (signF l [44]) 12 r with
      | error e => obtain ⟨e, x⟩ := e; rfl
      | ok v =>
        obtain ⟨b, r1⟩ := v
        simp only [shX]
        rw [sign_pre]
        cases signF l [46] r1 with
        | none => rfl
        | some r => rfl
def endF (l : List UInt8) (p : Nat) : Option Nat := if p = l.length then none else some p
theorem end_pre (pre l : List UInt8) (p : Nat) : endF (pre ++ l) (pre.length + p) = (endF l p).map (pre.length + ·) := by
  unfold endF
  rw [List.length_append]
  by_cases h : p = l.length
  · rw [if_pos h, if_pos (by omega)]; rfl
  · rw [if_neg h, if_neg (by omega)]; rfl
theorem rules_pre (pre l : List UInt8) (n p : Nat) : listF (atNameB (pre ++ l)) (ruleF (pre ++ l)) (endF (pre ++ l)) n (pre.length + p) = shX pre.length (List.map (shR pre.length)) (listF (atNameB l) (ruleF l) (endF l) n p) :=
  listF_pre pre.length (shR pre.length) (atNameB l) (atNameB (pre ++ l)) (ruleF l) (ruleF (pre ++ l)) (endF l) (endF (pre ++ l)) (name_pre pre l) (ruleF_pre pre l) (end_pre pre l) n p
theorem parseF_end (l : List UInt8) : parseF l = if 20000 < l.length then .error (1, 0) else if skipTo l 0 = l.length then .ok [] else match listF (atNameB l) (ruleF l) (endF l) 200 (skipTo l 0) with
    | .error e => .error e
    | .ok (rs, _) => .ok rs := rfl
/-- bytes ahead that are gone over -/
theorem parse_pre (pre l : List UInt8) (h : skipGo false (pre ++ l) = pre.length + skipGo false l) (hl : (pre ++ l).length ≤ 20000) : parseF (pre ++ l) = match parseF l with
    | .error (e, x) => .error (e, pre.length + x)
    | .ok rs => .ok (rs.map (shR pre.length)) := by
  have hs : skipTo (pre ++ l) 0 = pre.length + skipTo l 0 := by unfold skipTo; simp only [List.drop_zero, Nat.zero_add]; exact h
  have hl2 : ¬ 20000 < l.length := by rw [List.length_append] at hl; omega
  rw [parseF_end, parseF_end, if_neg (by omega), if_neg hl2, hs]
  by_cases he : skipTo l 0 = l.length
  · rw [if_pos he, if_pos (by rw [List.length_append]; omega)]; rfl
  · rw [if_neg he, if_neg (by rw [List.length_append]; omega), rules_pre]
    cases listF (atNameB l) (ruleF l) (endF l) 200 (skipTo l 0) with
    | error e => obtain ⟨e, x⟩ := e; rfl
    | ok v => obtain ⟨rs, q⟩ := v; rfl
theorem termText_sh (d : Nat) (t : PTerm) : termTextF (shT d t) = termTextF t := rfl
theorem comma_map {α : Type} (f : α → List UInt8) (g : α → α) (h : ∀ x, f (g x) = f x) : ∀ l : List α, commaF f (l.map g) = commaF f l := by
  intro l
  induction l with
  | nil => rfl
  | cons x l ih =>
    cases l with
    | nil => simp [commaF, h]
    | cons y r =>
      simp only [List.map_cons, commaF, h]
      rw [List.map_cons] at ih
      rw [ih]
theorem atomText_sh (d : Nat) (a : PAtom) : atomTextF (shA d a) = atomTextF a := by
  unfold atomTextF shA
  simp only [List.length_map]
  rw [comma_map termTextF (shT d) (termText_sh d)]
theorem partText_sh (d : Nat) (p : PPart) : partTextF (shP d p) = partTextF p := by
  unfold shP
  split
  · unfold partTextF; simp only [atomText_sh]
  · unfold partTextF; simp only [termText_sh]
theorem ruleText_sh (d : Nat) (r : PRule) : ruleTextF (shR d r) = ruleTextF r := by
  unfold ruleTextF shR
  simp only [atomText_sh, List.length_map]
  rw [comma_map partTextF (shP d) (partText_sh d)]
theorem rulesText_sh (d : Nat) (rs : List PRule) : rulesTextF (rs.map (shR d)) = rulesTextF rs := by
  unfold rulesTextF; rw [List.flatMap_map]; simp only [ruleText_sh]
end Go.Proofs.YtoelacloghkooaaGreatDoor
