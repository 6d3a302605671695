import Derived.Test.YtdfbjnachakkhaaGreatDoorM08
import Derived.Test.YtdfbjnachakkhaaGreatDoorM36
import Derived.Test.YtdfbjnachakkhaaGreatDoorM15
import Derived.LoopNIn
import Derived.Test.YtdfbjnachakkhaaGreatDoorM29
import Derived.Test.YtdfbjnachakkhaaGreatDoorM33
namespace Go.Proofs.YtdfbjnachakkhaaGreatDoor
open Go.ChangeShapes Go.WideShapes Go.ChangeAt Go.RowKit Go.Hands Go.WideMaps Go.Maps
set_option linter.unusedVariables false
set_option maxRecDepth 100000
attribute [local go_sem] Oper.semAt_some
/-- the lengths of the relations, as the map reads -/
def AriD (name : List UInt8) (n : Nat) : DataW Unit := (DataW.map []).put (.string name) (.lit (.int .i64 (n : Nat)))
theorem AriD_at (name : List UInt8) (n : Nat) (z : DataW Unit) : (AriD name n).atKey (.string name) z = .lit (.int .i64 (n : Nat)) := atKey_put_same isMap_empty (by simp [WideAt.IsKeyLit]) _ _
theorem AriD_has (name : List UInt8) (n : Nat) : Maps.has (AriD name n) (.string name) = true := has_put_same isMap_empty (by simp [WideAt.IsKeyLit]) _
/-- what the rounds look at -/
structure FltI (z n rb rc : Nat) (name : List UInt8) (bda : Option Addr) (bdc : Nat) (w0 w : World) : Prop where
  m : w.ownsMap Tryz.prog 9 (plainElem Tryz.prog 3) (z + 1 + 1 + 1) 1 (AriD name n)
  q : w.heap[z]? = some (.cells #[.slice bda 1 bdc, .slice (some ⟨rb, 0, none⟩) 1 rc] 47 (0, 0))
  e : w.heap[z + 1]? = some (.cells #[.int .i64 0] 29 (0, 0))
  a : w.heap[z + 1 + 1]? = some (.cells #[.int .i64 0] 3 (0, 0))
  b : w.heap[z + 1 + 1 + 1 + 1]? = some (.cells #[.map (some (z + 1 + 1 + 1))] 72 (0, 0))
  f : w0.grownBy w none
theorem FltI.kept {z n rb rc : Nat} {name : List UInt8} {bda : Option Addr} {bdc : Nat} {w0 A C : World} (h : FltI z n rb rc name bda bdc w0 A) {Z : Nat → Obj → Prop} (hf : FrT Z A C) (hz : ∀ k o, Z k o → isRec o ∧ w0.heap.size ≤ k) : FltI z n rb rc name bda bdc w0 C := by
  have hc : ∀ (k : Nat) (cur : Array Value) (t : TypeId) (fz : Nat × Nat), A.heap[k]? = some (.cells cur t fz) → C.heap[k]? = some (.cells cur t fz) := fun k cur t fz hk => hf.block k _ hk (fun e => (hz _ _ e).1)
  refine ⟨frt_map hf h.m (fun es ck e => (hz _ _ e).1), hc _ _ _ _ h.q, hc _ _ _ _ h.e, hc _ _ _ _ h.a, hc _ _ _ _ h.b, ?_⟩
  refine ⟨hf.os.trans h.f.os, hf.tape.trans h.f.tape, hf.output.trans h.f.output, Nat.le_trans h.f.size hf.size, fun k hk _ => ?_⟩
  have h1 := h.f.block k hk (by simp)
  have h2 : w0.heap[k]? = some w0.heap[k] := Array.getElem?_eq_getElem hk
  rw [h2] at h1 ⊢
  exact hf.block k _ h1 (fun e => by have := (hz _ _ e).2; omega)
theorem FltI.below {z n rb rc m : Nat} {name : List UInt8} {bda : Option Addr} {bdc : Nat} {w0 A C : World} (h : FltI z n rb rc name bda bdc w0 A) (hb : Below m A C) (hm : z + 4 < m) (hw : w0.heap.size ≤ m) : FltI z n rb rc name bda bdc w0 C :=
  ⟨mapAtH h.m (hb.block _ (by omega)), (hb.block _ (by omega)).trans h.q, (hb.block _ (by omega)).trans h.e, (hb.block _ (by omega)).trans h.a, (hb.block _ (by omega)).trans h.b, ⟨hb.os.trans h.f.os, hb.tape.trans h.f.tape, hb.output.trans h.f.output, Nat.le_trans h.f.size hb.size, fun k hk hn => (hb.block k (by omega)).trans (h.f.block k hk hn)⟩⟩
theorem unbL_none (p : PPart) (hk : p.kind = 0) : unbL [] [p] = [] := by
  unfold unbL wantsL
  simp [hk]
set_option maxHeartbeats 4000000 in
theorem fault_any' (B pb rb rc n : Nat) (name : List UInt8) (bd u : Value) (p : PPart) (v : Value) (w : World)
    (hparts : PartsAt 65 67 pb w bd [p] [u]) (hk : p.kind = 0) (hpn : p.atom.name = name) (hvar : ∀ t ∈ p.atom.args, t.isVar = true) (hpl : p.atom.args.length = n) (hx : ∀ t ∈ p.atom.args, t.text.length ≤ 1000) (hn : n ≤ 8)
    (va : Option Addr) (vn vc : Nat) (hv : v = .slice va vn vc) (hrel : w.ownsRow B 32 3 (.slice (some ⟨rb, 0, none⟩) 1 rc) 1 [.string (str name), .int .i64 (n : Nat), v]) (hname : name.length ≤ 1000) :
    Calls Tryz.prog 14 #[.agg #[bd, .slice (some ⟨rb, 0, none⟩) 1 rc]] w fun e w' => e = .returned (.tuple #[.int .i64 0, .int .i64 0]) ∧ w.grownBy w' none := by
  have hmm := @run_makeMap Tryz.prog
  obtain ⟨bda, bdc, hbd⟩ : ∃ a c, bd = .slice a 1 c := by obtain ⟨a, c, h⟩ := own_form hparts.own; exact ⟨a, c, h⟩
  have HP := hide hparts
  have HV := hide hvar
  have HX := hide hx
  have q0 := own_cell hrel (g := rb) rfl 0 _ rfl
  have q1 := own_cell hrel (g := rb) rfl 1 _ rfl
  have q2 := own_cell hrel (g := rb) rfl 2 _ rfl
  rw [hv] at q2
  rw [hbd]
  obtain ⟨sn, HSN⟩ : ∃ sn, Hid (sn = str name) := ⟨_, rfl⟩
  rw [← HSN.out] at q0
  have hkey : keyOf Tryz.prog 9 (.string sn) = some (.string name) := by
    have := keyOf_string_mk Tryz.underlying9 (s := str name) (by rw [str_size]; unfold maxLen; omega)
    rw [data_str] at this; rw [HSN.out]; exact this
  obtain ⟨wA, HWA⟩ : ∃ wA, Hid (wA = ((((w.alloc (.cells #[.slice bda 1 bdc, .slice (some ⟨rb, 0, none⟩) 1 rc] 47)).alloc (.cells #[.int .i64 0] 29)).alloc (.cells #[.int .i64 0] 3)).alloc (.map #[] 0)).alloc (.cells #[.map (some (w.heap.size + 1 + 1 + 1))] 72)) := ⟨_, rfl⟩
  have hwA := HWA.out.symm
  have HGA : Hid (w.grownBy wA none) := by rw [HWA.out]; exact fr_both (fr_both (fr_both (fr_both (fr_alloc _ _ _) (fr_alloc _ _ _)) (fr_alloc _ _ _)) (fr_alloc _ _ _)) (fr_alloc _ _ _)
  have hsA : wA.heap.size = w.heap.size + 5 := by rw [HWA.out]; simp
  have HBQ : Hid (wA.heap[w.heap.size]? = some (.cells #[.slice bda 1 bdc, .slice (some ⟨rb, 0, none⟩) 1 rc] 47 (0, 0)) ∧ wA.heap[w.heap.size + 1]? = some (.cells #[.int .i64 0] 29 (0, 0)) ∧ wA.heap[w.heap.size + 1 + 1]? = some (.cells #[.int .i64 0] 3 (0, 0)) ∧ wA.heap[w.heap.size + 1 + 1 + 1 + 1]? = some (.cells #[.map (some (w.heap.size + 1 + 1 + 1))] 72 (0, 0))) := by
    rw [HWA.out]
    refine ⟨?_, ?_, ?_, ?_⟩
    · rw [Below.heap_alloc _ _ _ (by simp <;> omega), Below.heap_alloc _ _ _ (by simp <;> omega), Below.heap_alloc _ _ _ (by simp <;> omega), Below.heap_alloc _ _ _ (by simp)]; exact heap_alloc_new _ _
    · rw [Below.heap_alloc _ _ _ (by simp <;> omega), Below.heap_alloc _ _ _ (by simp <;> omega), Below.heap_alloc _ _ _ (by simp)]
      have := heap_alloc_new (w.alloc (.cells #[.slice bda 1 bdc, .slice (some ⟨rb, 0, none⟩) 1 rc] 47)) (.cells #[.int .i64 0] 29)
      rw [World.size_alloc] at this; exact this
    · rw [Below.heap_alloc _ _ _ (by simp <;> omega), Below.heap_alloc _ _ _ (by simp)]
      have := heap_alloc_new ((w.alloc (.cells #[.slice bda 1 bdc, .slice (some ⟨rb, 0, none⟩) 1 rc] 47)).alloc (.cells #[.int .i64 0] 29)) (.cells #[.int .i64 0] 3)
      rw [World.size_alloc, World.size_alloc] at this; exact this
    · have := heap_alloc_new ((((w.alloc (.cells #[.slice bda 1 bdc, .slice (some ⟨rb, 0, none⟩) 1 rc] 47)).alloc (.cells #[.int .i64 0] 29)).alloc (.cells #[.int .i64 0] 3)).alloc (.map #[] 0)) (.cells #[.map (some (w.heap.size + 1 + 1 + 1))] 72)
      rw [World.size_alloc, World.size_alloc, World.size_alloc, World.size_alloc] at this; exact this
  have HMA : Hid (wA.ownsMap Tryz.prog 9 (plainElem Tryz.prog 3) (w.heap.size + 1 + 1 + 1) 0 (.map [] : DataW Unit)) := by
    have h1 := World.ownsMap_made (H := Unit) (((w.alloc (.cells #[.slice bda 1 bdc, .slice (some ⟨rb, 0, none⟩) 1 rc] 47)).alloc (.cells #[.int .i64 0] 29)).alloc (.cells #[.int .i64 0] 3)) Tryz.prog 9 (plainElem Tryz.prog 3)
    rw [World.size_alloc, World.size_alloc, World.size_alloc] at h1
    rw [HWA.out]
    exact h1.kept (fr_alloc _ _ none) (by simp)
  have hfA := FrS.none (S := fun _ => False) HGA.out
  replace q0 := hfA.cell q0 (fun h => h)
  replace q1 := hfA.cell q1 (fun h => h)
  replace q2 := hfA.cell q2 (fun h => h)
  have c1 : wA.cell? ⟨w.heap.size, 1, none⟩ = some (.slice (some ⟨rb, 0, none⟩) 1 rc) := cell_of HBQ.out.1 1 _ rfl
  obtain ⟨wB, HWB⟩ : ∃ wB, Hid (wB = wA.alloc (.cells #[.string sn, .int .i64 (n : Nat), .slice va vn vc] 32)) := ⟨_, rfl⟩
  have hwB := HWB.out.symm
  have HGB : Hid (wA.grownBy wB none) := by rw [HWB.out]; exact fr_alloc _ _ _
  have hpB : wB.heap[wA.heap.size]? = some (.cells #[.string sn, .int .i64 (n : Nat), .slice va vn vc] 32 (0, 0)) := by rw [HWB.out]; exact heap_alloc_new _ _
  rw [hsA] at hpB
  have d0 : wB.cell? ⟨w.heap.size + 5, 0, none⟩ = some (.string sn) := cell_of hpB 0 _ rfl
  have d1 : wB.cell? ⟨w.heap.size + 5, 1, none⟩ = some (.int .i64 (n : Nat)) := cell_of hpB 1 _ rfl
  have d4 : wB.cell? ⟨w.heap.size + 1 + 1 + 1 + 1, 0, none⟩ = some (.map (some (w.heap.size + 1 + 1 + 1))) := (FrS.none (S := fun _ => False) HGB.out).cell (cell_of HBQ.out.2.2.2 0 _ rfl) (fun h => h)
  have hownB := HMA.out.kept HGB.out (by simp)
  clear hparts hvar hx hrel hfA hpB
  obtain ⟨N, hN1⟩ : ∃ N : Nat, 30 ≤ N := ⟨30, by omega⟩
  refine (callsIn_wide (n := N)).1 ?_
  refine callsIn_of_wp_marks Tryz.func14 rfl trivial ?_ rfl
  simp only [Tryz.ntmps14, List.size_toArray, List.length_cons, List.length_nil, Nat.reduceAdd, Nat.reduceSub, Array.replicate_succ, Array.replicate_zero, List.push_toArray, List.append_toArray, List.nil_append, List.cons_append]
  gi_wp2_with fail
  refine wpIn_loop_rounds 2 ?_
  rw [roundsIn_succ]
  gi_wp2_with (first
    | (gi_at_mapUpdate; refine wpListIn_mapUpdate_own _ rfl _ _ _ 72 rfl 9 3 keyedS Tryz.underlying72 _ (w.heap.size + 1 + 1 + 1) _ _ rfl hownB (by unfold maxLen; omega) _ _ _ rfl rfl hkey _ [] (plainElem_int Tryz.underlying3 (WalkArith.wf_i64 (by omega))) ?_; intro w1 hown1 hgrow1)
    | fail)
  rw [roundsIn_succ]
  have HM1 : Hid (w1.ownsMap Tryz.prog 9 (plainElem Tryz.prog 3) (w.heap.size + 1 + 1 + 1) 1 (AriD name n)) := hown1
  have HF1 : Hid (FrS (fun j => j = w.heap.size + 1 + 1 + 1) wA w1) := FrS.trans (FrS.none HGB.out) (FrS.of (S := fun j => j = w.heap.size + 1 + 1 + 1) hgrow1 (fun g e => .inl (Option.some.inj e).symm)) (fun _ _ e => e)
  clear hown1 hgrow1 q0 q1 q2 d0 d1 d4 hownB c1
  have HB1 : Hid (w1.heap[w.heap.size]? = some (.cells #[.slice bda 1 bdc, .slice (some ⟨rb, 0, none⟩) 1 rc] 47 (0, 0)) ∧ w1.heap[w.heap.size + 1]? = some (.cells #[.int .i64 0] 29 (0, 0)) ∧ w1.heap[w.heap.size + 1 + 1]? = some (.cells #[.int .i64 0] 3 (0, 0)) ∧ w1.heap[w.heap.size + 1 + 1 + 1 + 1]? = some (.cells #[.map (some (w.heap.size + 1 + 1 + 1))] 72 (0, 0))) := by
    obtain ⟨b0, b1, b2, b4⟩ := HBQ.out
    exact ⟨(HF1.out.block _ (lt_of_heap b0) (by show ¬ w.heap.size = _; omega)).trans b0, (HF1.out.block _ (lt_of_heap b1) (by show ¬ w.heap.size + 1 = _; omega)).trans b1, (HF1.out.block _ (lt_of_heap b2) (by show ¬ w.heap.size + 1 + 1 = _; omega)).trans b2, (HF1.out.block _ (lt_of_heap b4) (by show ¬ w.heap.size + 1 + 1 + 1 + 1 = _; omega)).trans b4⟩
  have c0 : w1.cell? ⟨w.heap.size, 0, none⟩ = some (.slice bda 1 bdc) := cell_of HB1.out.1 0 _ rfl
  have c1 : w1.cell? ⟨w.heap.size, 1, none⟩ = some (.slice (some ⟨rb, 0, none⟩) 1 rc) := cell_of HB1.out.1 1 _ rfl
  have HR1 := hide (rule_any bda (some ⟨rb, 0, none⟩) 1 bdc 1 rc w1)
  gi_wp2_with fail
  refine ⟨trivial, fun h => (by cases h), ?_⟩
  refine (callsIn_wide.2 HR1.out).mono ?_
  rintro e w2 ⟨rfl, hg2⟩
  have HG2 := hide hg2
  clear hg2 HR1
  have HBO := hide (body_any { data := #[] } none 0 0 0 bda 1 bdc w2)
  gi_wp2_with fail
  refine ⟨trivial, fun h => (by cases h), ?_⟩
  refine (callsIn_wide.2 HBO.out).mono ?_
  rintro e w3 ⟨rfl, hw3⟩
  have HG3 : Hid (w2.grownBy w3 none) := by rw [hw3]; exact fr_alloc _ _ _
  have HRB : Hid (w3.heap[w2.heap.size]? = some (.cells #[.string { data := #[] }, .slice none 0 0, .int .i64 0, .slice bda 1 bdc] 82 (0, 0))) := by rw [hw3]; exact heap_alloc_new _ _
  clear hw3 HBO c0 c1
  have HG13 : Hid (w1.grownBy w3 none) := fr_both HG2.out HG3.out
  have HFA1 : Hid (w.grownBy w1 none) := fr_far HGA.out HF1.out (fun j hj e => by have e' : j = w.heap.size + 1 + 1 + 1 := e; omega)
  have HI3 : Hid (FltI w.heap.size n rb rc name bda bdc w w3) := by
    obtain ⟨b0, b1, b2, b4⟩ := HB1.out
    exact (⟨HM1.out, b0, b1, b2, b4, HFA1.out⟩ : FltI w.heap.size n rb rc name bda bdc w w1).kept (FrT.none (Z := fun _ _ => False) HG13.out) (fun _ _ e => e.elim)
  have hs13 : w1.heap.size ≤ w3.heap.size := HG13.out.size
  have hsw1 : w.heap.size ≤ w1.heap.size := HFA1.out.size
  have hs12 : w1.heap.size ≤ w2.heap.size := HG2.out.size
  have hgp : ∀ g, bd.ownBlock = some g → g < w.heap.size := fun g hg => (own_blk HP.out.own hg).2
  gi_wp2_with fail
  refine rangeZ (by omega) (gf := 49) (lb := #[.pointer (some ⟨w2.heap.size, 0, none⟩)]) rfl (enters_of Tryz.func49 (by kernel_rfl) rfl)
    (body_one (N - 1) pb w2.heap.size bd p u (fun _ _ => False) w w3 (FrT.none HI3.out.f) (by rw [hbd]; exact cell_of HRB.out 3 _ rfl) HP.out (fun o h => h) (fun g o _ h => h) hk)
    (FrT.refl _ _) (fun k _ h => h.elim) (fun k o h => h.elim) (fun _ => rfl)
    (fun i W' => Hid (FltI w.heap.size n rb rc name bda bdc w W'))
    (fun i A C hi hf => hi.out.kept hf (fun k o e => by
      rcases e with e | ⟨e1, e2 | e2⟩
      · exact e.elim
      · exact ⟨e2, by omega⟩
      · exact e2.elim)) HI3 (fun _ _ _ _ _ => trivial)
    (fun x a' W' => ∃ Bx, W'.heap[Bx]? = some (.cells #[.string (str x.name), .slice x.ua x.n x.uc, .int .i64 (x.place : Nat)] 63 (0, 0)) ∧ a' = { tmps := #[.agg #[.slice bda 1 bdc, .slice (some ⟨rb, 0, none⟩) 1 rc], .pointer (some ⟨w.heap.size, 0, none⟩), .pointer (some ⟨w.heap.size + 1, 0, none⟩), .pointer (some ⟨w.heap.size + 1 + 1, 0, none⟩), .pointer (some ⟨w.heap.size + 1 + 1 + 1 + 1, 0, none⟩), undef, .pointer (some ⟨w.heap.size + 5, 0, none⟩), undef, .pointer (some ⟨Bx, 0, none⟩), undef, undef, undef, .map (some (w.heap.size + 1 + 1 + 1)), .pointer (some ⟨w.heap.size, 1, none⟩), .slice (some ⟨rb, 0, none⟩) 1 rc, .int .i64 1, .int .i64 1, .bool false, .pointer (some ⟨rb, 0, none⟩), .agg #[.string sn, .int .i64 (n : Nat), .slice va vn vc], .map (some (w.heap.size + 1 + 1 + 1)), .pointer (some ⟨w.heap.size + 5, 0, none⟩), .string sn, .pointer (some ⟨w.heap.size + 5, 1, none⟩), .int .i64 (n : Nat), .int .i64 1, .agg #[.slice bda 1 bdc, .slice (some ⟨rb, 0, none⟩) 1 rc], .agg #[.string { data := #[] }, .slice none 0 0, .int .i64 0, .slice bda 1 bdc], .func (.func 49) #[] #[.pointer (some ⟨w2.heap.size, 0, none⟩)], .int .i64 (x.kind : Nat), x.atomV, undef, undef, undef, undef, undef, undef, undef, undef, undef, undef, undef, undef, undef, undef, undef, undef, undef, undef, undef, undef, undef, undef, undef], defers := [] })
    ?hAx ?assign ?body ?done
  case hAx =>
    rintro x a' A C ⟨Bx, h0, rfl⟩ hf
    exact ⟨Bx, hf.block _ _ h0 (fun h => h), rfl⟩
  case assign =>
    rintro l' i ⟨xk, xn, xl, xa, xc, xp, xts⟩ W' K hx hi hfx hK
    have HK := hide hK
    clear hK hi
    dsimp only [BX.atomV]
    gi_wp2
    exact HK.out _ _ (FrT.alloc _ _ _) ⟨W'.heap.size, heap_alloc_new _ _, rfl⟩
  case body =>
    rintro l' i x a' W' hx HI _ ⟨Bx, h0, rfl⟩ _
    have hi0 : i = 0 := by
      match i, hx with
      | 0, _ => rfl
    subst hi0
    have hxe : x = bxOf p u := by simpa using hx.symm
    subst hxe
    have e0 : W'.cell? ⟨Bx, 0, none⟩ = some (.string sn) := by rw [HSN.out, ← hpn]; exact cell_of h0 0 _ rfl
    have e1 : W'.cell? ⟨Bx, 1, none⟩ = some (.slice (sliceA u) n (sliceC u)) := by rw [← hpl]; exact cell_of h0 1 _ rfl
    have e4 : W'.cell? ⟨w.heap.size + 1 + 1 + 1 + 1, 0, none⟩ = some (.map (some (w.heap.size + 1 + 1 + 1))) := cell_of HI.out.b 0 _ rfl
    have hown := HI.out.m
    have hh2 := AriD_has name n
    have hat0 := AriD_at name n (.lit (.int .i64 0))
    have hbne : ((n : Int) != (n : Int)) = false := by simp
    clear hx h0
    dsimp only [BX.atomV, bxOf]
    gi_wp2_with (first
      | (gi_at_lookup; refine wpListIn_lookup_own_ok_int _ rfl _ _ 72 rfl 9 3 .i64 keyedS Tryz.underlying72 Tryz.underlying3 (zeroI _) (w.heap.size + 1 + 1 + 1) 1 (AriD name n) rfl hown _ _ rfl hkey ?_; intro c hat hwc; rw [hh2]; have hc0 : c = (n : Int) := (by rw [hat0] at hat; injection hat with e1; injection e1 with e2 e3; exact e3.symm); subst hc0)
      | fail)
    exact FrT.refl _ _
  case done =>
    rintro D W' hD HI hd hfr
    have HDD := hide hd
    clear hd hfr
    have c0 : W'.cell? ⟨w.heap.size, 0, none⟩ = some (.slice bda 1 bdc) := cell_of HI.out.q 0 _ rfl
    have c1 : W'.cell? ⟨w.heap.size, 1, none⟩ = some (.slice (some ⟨rb, 0, none⟩) 1 rc) := cell_of HI.out.q 1 _ rfl
    have HR1 := hide (rule_any bda (some ⟨rb, 0, none⟩) 1 bdc 1 rc W')
    gi_wp2_with fail
    refine ⟨trivial, fun h => (by cases h), ?_⟩
    refine (callsIn_wide.2 HR1.out).mono ?_
    rintro e w4 ⟨rfl, hg4⟩
    have HG4 := hide hg4
    clear hg4 HR1
    have HUN := hide (unbound_any { data := #[] } none 0 0 0 bda 1 bdc w4)
    gi_wp2_with fail
    refine ⟨trivial, fun h => (by cases h), ?_⟩
    refine (callsIn_wide.2 HUN.out).mono ?_
    rintro e w5 ⟨rfl, hw5⟩
    have HG5 : Hid (w4.grownBy w5 none) := by rw [hw5]; exact fr_alloc _ _ _
    have HRB5 : Hid (w5.heap[w4.heap.size]? = some (.cells #[.string { data := #[] }, .slice none 0 0, .int .i64 0, .slice bda 1 bdc] 82 (0, 0))) := by rw [hw5]; exact heap_alloc_new _ _
    clear hw5 HUN c0 c1
    have HG45 : Hid (W'.grownBy w5 none) := fr_both HG4.out HG5.out
    have HI5 : Hid (FltI w.heap.size n rb rc name bda bdc w w5) := HI.out.kept (FrT.none (Z := fun _ _ => False) HG45.out) (fun _ _ e => e.elim)
    have HD5 : Hid (w5.heap[D]? = some (.deferred (some []))) := (HG45.out.block _ (lt_of_heap HDD.out) (by simp)).trans HDD.out
    have hs5 : W'.heap.size ≤ w5.heap.size := HG45.out.size
    have hDl : D < W'.heap.size := lt_of_heap HDD.out
    have hz5 : w.heap.size + 4 < w5.heap.size := by have := lt_of_heap HI5.out.b; omega
    have hRB : RuleBox w5 w4.heap.size [] none ([] : List PTerm).length 0 0 bd := ⟨cell_of HRB5.out 0 _ rfl, cell_of HRB5.out 1 _ rfl, cell_of HRB5.out 2 _ rfl, by rw [hbd]; exact cell_of HRB5.out 3 _ rfl⟩
    have hsum : (wantsL [] [p]) = [] := by unfold wantsL; simp [hk]
    gi_wp2_with fail
    refine range_hands rfl (by omega) (gf := 51) (lb := #[.pointer (some ⟨w4.heap.size, 0, none⟩)]) rfl trivial (enters_of Tryz.func51 (by kernel_rfl) rfl)
      (unbound_hands (N - 1) pb w4.heap.size [] none 0 0 [] bd [p] [u] w w5 (rnd_of HI5.out.f _) hRB (World.ownsRow_nil _ _ _ _) HP.out (by simp) (by simp) (fun q hq => by
        have hq' : q = p := by simpa using hq
        subst hq'
        exact ⟨by omega, by omega, fun t ht => by have := HX.out t ht; omega⟩) (fun t ht => by rw [hsum] at ht; simp at ht) (by rw [hsum]; simp) (by omega))
      (Rnd.refl _ _) (fun k h => h.elim) (fun _ => False) (fun k h => h.elim) (fun _ => rfl)
      (fun _ W' => Hid (FltI w.heap.size n rb rc name bda bdc w W') ∧ Hid (W'.heap[D]? = some (.deferred (some [])))) (fun _ _ _ => False)
      (fun s A C h hb => ⟨h.1.out.below hb hz5 (by have := HI5.out.f.size; omega), (hb.block D (by omega)).trans h.2.out⟩) (fun c s A C h hb => h) ⟨HI5, HD5⟩
      (fun _ _ _ => True) (fun _ _ _ _ _ _ _ _ => trivial) ?assign2 ?body2 ?done2 (fun _ _ _ _ _ _ h _ => h.elim)
    case assign2 =>
      rintro l' pre x W2 K hsz _ hK
      have HK := hide hK
      clear hK
      dsimp only [aggT]
      gi_wp2
      exact HK.out _ _ ((Rnd.refl _ _).alloc _) trivial
    case body2 =>
      rintro l' pre x a' W2 hsz _ _ hsp
      rw [unbL_none p hk] at hsp
      simp at hsp
    case done2 =>
      rintro D2 xs W2 hD2 hxs ⟨HI2, HDD2⟩ hd2
      have e0 : W2.cell? ⟨w.heap.size + 1, 0, none⟩ = some (.int .i64 0) := cell_of HI2.out.e 0 _ rfl
      have e1 := thaw_of HI2.out.e 0
      have e2 := setCell_same (j := 0) (v := .int .i64 0) HI2.out.e rfl
      have a0 : W2.cell? ⟨w.heap.size + 1 + 1, 0, none⟩ = some (.int .i64 0) := cell_of HI2.out.a 0 _ rfl
      have a1 := thaw_of HI2.out.a 0
      have a2 := setCell_same (j := 0) (v := .int .i64 0) HI2.out.a rfl
      have HD2 := hide hd2
      have hDne : D ≠ D2 := by omega
      clear hd2
      dsimp only
      gi_wp2
      refine ⟨by simp, .inl ⟨_, _, rfl, run_takeDeferred HD2.out, ?_⟩⟩
      have hp1 : FrT (fun k o => isRec o ∧ w.heap.size ≤ k) W2 (W2.putObj D2 (.deferred none)) := FrT.put W2 D2 _ (fun o ho => by rw [HD2.out] at ho; cases ho; exact ⟨trivial, by omega⟩)
      have hI1 := HI2.out.kept hp1 (fun _ _ e => e)
      have hd1 : (W2.putObj D2 (.deferred none)).heap[D]? = some (.deferred (some [])) := (World.putObj_heap_other hDne).trans HDD2.out
      refine ⟨by simp, .inl ⟨_, _, rfl, run_takeDeferred hd1, ?_⟩⟩
      have hp2 : FrT (fun k o => isRec o ∧ w.heap.size ≤ k) (W2.putObj D2 (.deferred none)) ((W2.putObj D2 (.deferred none)).putObj D (.deferred none)) := FrT.put _ D _ (fun o ho => by rw [hd1] at ho; cases ho; exact ⟨trivial, by omega⟩)
      have hI2 := hI1.kept hp2 (fun _ _ e => e)
      have z0 := cell_of hI2.e 0 _ rfl
      have z1 := cell_of hI2.a 0 _ rfl
      refine ⟨.tuple #[.int .i64 0, .int .i64 0], by simp [results, Tryz.results14, go_sem, z0, z1], rfl, hI2.f⟩
end Go.Proofs.YtdfbjnachakkhaaGreatDoor

namespace Go.Proofs.YtdfbjnachakkhaaGreatDoor
open Go.ChangeShapes Go.WideShapes Go.ChangeAt Go.RowKit
set_option linter.unusedVariables false
def fits (r : List (List UInt8)) : Bool := r.all (fun t => decide (t.length ≤ 200))
set_option maxRecDepth 100000 in
set_option maxHeartbeats 400000 in
theorem tooLong_any (s : ByteArray) (w : World) : Calls Tryz.prog 93 #[.string s] w fun e w' => e = .returned (.bool (decide (200 < s.size))) ∧ w = w' := by
  go_enter Tryz.func93, Tryz.ntmps93
  go_wp2
  go_ret
  exact ⟨ret_bool (by simp; omega), rfl⟩
theorem fits_no (r : List (List UInt8)) (k : Nat) (h : k < r.length) (h2 : 200 < r[k].length) : fits r = false := by
  unfold fits
  rw [List.all_eq_false]
  exact ⟨r[k], List.getElem_mem h, by simp; omega⟩
theorem fits_yes (r : List (List UInt8)) (h : ∀ t ∈ r, t.length ≤ 200) : fits r = true := by
  unfold fits
  rw [List.all_eq_true]
  intro t ht
  simpa using h t ht
set_option maxRecDepth 100000 in
set_option maxHeartbeats 1000000 in
theorem indexLong_any (v : Value) (l : List (List UInt8)) (w : World) (h : Strs w v l) (hl : l.length ≤ 140737488355328) :
    Calls Tryz.prog 54 #[v, .func (.func 93) #[] #[]] w fun e w' => (∃ i : Int, e = .returned (.int .i64 i) ∧ decide (0 ≤ i) = !(fits l) ∧ -1 ≤ i ∧ i ≤ 140737488355328) ∧ w = w' := by
  have EG : ∀ args w, (callFunc 93 args).run Tryz.prog w = .ok (.enter 93 args) w := enters_of Tryz.func93 (by kernel_rfl) rfl
  obtain ⟨a, cap, rfl, h⟩ := h
  rcases h with ⟨rfl, _⟩ | ⟨b, off, rfl, hc⟩
  · go_enter Tryz.func54, Tryz.ntmps54
    go_wp2
    refine wp_loop_rounds 1 ?_
    rw [rounds_succ]
    go_wp2
    go_ret
    exact ⟨⟨_, rfl, by decide, by omega, by omega⟩, rfl⟩
  · have HC : Hid (∀ (i : Nat) (x : List UInt8), l[i]? = some x → w.cell? ⟨b, off + i, none⟩ = some (.string (str x))) := hc
    clear hc
    go_enter Tryz.func54, Tryz.ntmps54
    go_wp2
    go_loopw [8] (fun i wr => ∃ k : Nat, k ≤ l.length ∧ i = .int .i64 k ∧ wr = w ∧ Hid (∀ t ∈ l.take k, t.length ≤ 200)) (fun i _ => l.length - (intOf i).toNat)
    case atStart => exact ⟨0, by omega, rfl, rfl, fun t ht => by simp at ht⟩
    case round =>
      obtain ⟨k, hk, rfl, rfl, HN⟩ := hrel
      by_cases hlt : k < l.length
      · have c1 := HC.out k l[k] (get_at hlt)
        obtain ⟨sx, HSX⟩ : ∃ sx, Hid (sx = str l[k]) := ⟨str l[k], (rfl : str l[k] = str l[k])⟩
        rw [← HSX.out] at c1
        by_cases h200 : 200 < l[k].length
        · have HF : Hid (fits l = false) := fits_no l k hlt h200
          have d1 : decide (200 < sx.size) = true := by rw [HSX.out, str_size]; simpa using h200
          clear h200
          go_wp2_with fail
          refine (tooLong_any sx _).mono ?_
          rintro e w1 ⟨rfl, rfl⟩
          rw [d1]
          go_wp2
          go_ret
          exact ⟨⟨_, rfl, by rw [HF.out]; simp, by omega, by omega⟩, rfl⟩
        · have HF : Hid (∀ t ∈ l.take (k + 1), t.length ≤ 200) := by
            intro t ht
            rw [take_next l k hlt] at ht
            rcases List.mem_append.1 ht with ht | ht
            · exact HN.out t ht
            · simp at ht; subst ht; omega
          have d1 : decide (200 < sx.size) = false := by rw [HSX.out, str_size]; simpa using h200
          clear h200
          go_wp2_with fail
          refine (tooLong_any sx _).mono ?_
          rintro e w1 ⟨rfl, rfl⟩
          rw [d1]
          go_wp2
          go_roundw
          case rel => exact ⟨k + 1, by omega, by go_num, by first | trivial | rfl, HF⟩
          case measure => simp [intOf]; omega
      · have HF : Hid (fits l = true) := by
          have := HN.out
          rw [List.take_of_length_le (by omega)] at this
          exact fits_yes l this
        go_wp2
        go_ret
        exact ⟨⟨_, rfl, by rw [HF.out]; decide, by omega, by omega⟩, rfl⟩
set_option maxRecDepth 100000 in
set_option maxHeartbeats 400000 in
theorem hasLong_any (v : Value) (l : List (List UInt8)) (w : World) (h : Strs w v l) (hl : l.length ≤ 140737488355328) :
    Calls Tryz.prog 92 #[v, .func (.func 93) #[] #[]] w fun e w' => e = .returned (.bool (!(fits l))) ∧ w = w' := by
  have HS : Hid (Strs w v l) := h
  obtain ⟨a, cap, rfl, -⟩ := h
  go_enter Tryz.func92, Tryz.ntmps92
  go_wp2_with fail
  refine (indexLong_any _ l _ HS.out hl).mono ?_
  rintro e w1 ⟨⟨i, rfl, hi, h1, h2⟩, rfl⟩
  have HI : Hid (decide (0 ≤ i) = !(fits l)) := hi
  clear hi
  go_wp2
  go_ret
  exact ⟨ret_bool (by rw [← HI.out]), rfl⟩
/-- the first error of a relation, but for how many rows differ -/
def faultOf (name : List UInt8) (ar : Int) (rows : List (List (List UInt8))) : Nat × Nat :=
  if isName name = false then (8, 0) else if ar < 0 ∨ 8 < ar then (3, 0) else (bad ar.toNat 0 rows).getD (0, 0)
theorem ret_pair {a b : Int} {p : Nat × Nat} (h : p = (a.toNat, b.toNat)) (ha : 0 ≤ a) (hb : 0 ≤ b) : Ending.returned (.tuple #[.int .i64 a, .int .i64 b]) = .returned (.tuple #[.int .i64 (p.1 : Nat), .int .i64 (p.2 : Nat)]) := by
  subst h; simp only
  rw [Int.toNat_of_nonneg ha, Int.toNat_of_nonneg hb]
set_option maxRecDepth 100000 in
set_option maxHeartbeats 2000000 in
theorem fault_any (name : ByteArray) (ar : Int) (rv : Value) (vs : List Value) (rows : List (List (List UInt8))) (w : World) (h : Rows2 w rv vs rows) (hn : name.size ≤ 140737488355328) (hrl : rows.length ≤ 1073741824) (hrr : ∀ r ∈ rows, r.length ≤ 1099511627776) :
    Calls Tryz.prog 47 #[.agg #[.string name, .int .i64 ar, rv]] w fun e w' => e = .returned (.tuple #[.int .i64 ((faultOf name.data.toList ar rows).1 : Nat), .int .i64 ((faultOf name.data.toList ar rows).2 : Nat)]) ∧ Below w.heap.size w w' := by
  have HH : Hid (Rows2 w rv vs rows) := h
  have HRR : Hid (∀ r ∈ rows, r.length ≤ 1099511627776) := hrr
  clear hrr
  obtain ⟨⟨a, cap, rfl, -⟩, -, -⟩ := h
  cases hnm : isName name.data.toList with
  | false =>
    have HT : Hid (faultOf name.data.toList ar rows = (8, 0)) := by show _ = _; unfold faultOf; rw [hnm]; rfl
    have HNM : Hid (isName name.data.toList = false) := hnm
    clear hnm
    go_enter Tryz.func47, Tryz.ntmps47
    go_wp2_with fail
    refine (name_any name _ hn).mono ?_
    rintro e w1 ⟨rfl, rfl⟩
    rw [HNM.out]
    go_wp2
    go_ret2
    exact ⟨ret_pair HT.out (by decide) (by decide), (Below.refl _ _).alloc (Nat.le_refl _) _⟩
  | true =>
    have HNM : Hid (isName name.data.toList = true) := hnm
    by_cases har : ar < 0 ∨ 8 < ar
    · have HT : Hid (faultOf name.data.toList ar rows = (3, 0)) := by show _ = _; unfold faultOf; rw [hnm, if_pos har]; rfl
      clear hnm
      have har' : decide (ar < 0) = true ∨ (decide (ar < 0) = false ∧ decide (8 < ar) = true) := by
        by_cases h0 : ar < 0
        · exact Or.inl (by simpa using h0)
        · exact Or.inr ⟨by simpa using h0, by simp; omega⟩
      clear har
      rcases har' with h0 | ⟨h0, h8⟩
      all_goals
        go_enter Tryz.func47, Tryz.ntmps47
        go_wp2_with fail
        refine (name_any name _ hn).mono ?_
        rintro e w1 ⟨rfl, rfl⟩
        rw [HNM.out]
        go_wp2
        go_ret2
        exact ⟨ret_pair HT.out (by decide) (by decide), (Below.refl _ _).alloc (Nat.le_refl _) _⟩
    · obtain ⟨m, rfl⟩ := Int.eq_ofNat_of_zero_le (by omega : 0 ≤ ar)
      have hm8 : m ≤ 8 := by omega
      have HT : Hid (faultOf name.data.toList m rows = (bad m 0 rows).getD (0, 0)) := by
        show _ = _; unfold faultOf; rw [hnm, if_neg har, Int.toNat_natCast]; rfl
      clear hnm har
      have d0 : decide ((m : Int) < 0) = false := by simp
      have d8 : decide (8 < (m : Int)) = false := by simp; omega
      rcases HH.out.1 with ⟨a2, cap2, hv2, hvs⟩
      cases hv2
      rcases hvs with ⟨rfl, _⟩ | ⟨b, off, rfl, hc⟩
      · have hr0 : rows = [] := List.eq_nil_of_length_eq_zero (by have := HH.out.2.1; simpa using this.symm)
        subst hr0
        go_enter Tryz.func47, Tryz.ntmps47
        go_wp2_with fail
        refine (name_any name _ hn).mono ?_
        rintro e w1 ⟨rfl, rfl⟩
        rw [HNM.out]
        go_wp2
        refine wp_loop_rounds 1 ?_
        rw [rounds_succ]
        go_wp2
        go_ret2
        exact ⟨ret_pair HT.out (by decide) (by decide), (Below.refl _ _).alloc (Nat.le_refl _) _⟩
      · have HC : Hid (∀ (i : Nat) (x : Value), vs[i]? = some x → w.cell? ⟨b, off + i, none⟩ = some x) := hc
        have HLE : Hid (vs.length = rows.length) := HH.out.2.1
        have HIN : Hid (∀ (i : Nat) (x : Value) (r : List (List UInt8)), vs[i]? = some x → rows[i]? = some r → Strs w x r) := HH.out.2.2
        have hvl : vs.length ≤ 1073741824 := by have := HLE.out; omega
        clear hc
        go_enter Tryz.func47, Tryz.ntmps47
        go_wp2_with fail
        refine (name_any name _ hn).mono ?_
        rintro e w1 ⟨rfl, rfl⟩
        rw [HNM.out]
        go_wp2
        obtain ⟨W0, HW0⟩ : ∃ W0, Hid (W0 = w.alloc (.cells #[.string name, .int .i64 m, .slice (some ⟨b, off, none⟩) vs.length cap] 32)) := ⟨_, rfl⟩
        have HB0 : Hid (Below w.heap.size w W0) := by rw [HW0.out]; exact (Below.refl _ _).alloc (Nat.le_refl _) _
        have q1 : W0.cell? ⟨w.heap.size, 1, none⟩ = some (.int .i64 m) := by rw [HW0.out]; simp
        rw [← HW0.out]
        clear HW0
        go_loopw [21] (fun iv wr => ∃ (k n : Nat), k ≤ vs.length ∧ iv = .int .i64 k ∧ wr = W0.drewN n ∧ Hid (bad m 0 rows = bad m k (rows.drop k))) (fun iv _ => vs.length - (intOf iv).toNat)
        case atStart => exact ⟨0, 0, by omega, rfl, rfl, (rfl : bad m 0 rows = bad m 0 rows)⟩
        case round =>
          obtain ⟨k, n, hk, rfl, rfl, HBD⟩ := hrel
          by_cases hlt : k < vs.length
          · have hkr : k < rows.length := by have := HLE.out; omega
            have cx0 := HC.out k vs[k] (val_at hlt)
            have cx : W0.cell? ⟨b, off + k, none⟩ = some vs[k] := (HB0.out.cell (p := ⟨b, off + k, none⟩) (World.block_lt_of_cell? w ⟨b, off + k, none⟩ cx0)).trans cx0
            have HST : Hid (∀ j : Nat, Strs (W0.drewN j) vs[k] rows[k]) := fun j => ((HIN.out k _ _ (val_at hlt) (row_at hkr)).kept HB0.out).drewN j
            have HBK : Hid (bad m 0 rows = if rows[k].length = m then (if fits rows[k] then bad m (k + 1) (rows.drop (k + 1)) else some (1, k)) else some (9, k)) := by
              show _ = _
              rw [HBD.out, List.drop_eq_getElem_cons hkr, bad]; rfl
            have hrowl : rows[k].length ≤ 1099511627776 := HRR.out _ (List.getElem_mem hkr)
            clear cx0
            generalize vs[k] = x at *
            generalize rows[k] = row at *
            obtain ⟨xa, xc, hxe, -⟩ := HST.out 0
            subst hxe
            by_cases hrm : row.length = m
            · have hne : ((row.length : Int) != (m : Int)) = false := by simp [hrm]
              have HRM : Hid (row.length = m) := hrm
              clear hrm
              cases hf : fits row with
              | true =>
                have HN : Hid (bad m 0 rows = bad m (k + 1) (rows.drop (k + 1))) := by show _ = _; rw [HBK.out, if_pos HRM.out, hf]; rfl
                have HF : Hid (fits row = true) := hf
                clear hf
                go_wp2_with fail
                refine (hasLong_any _ row _ (HST.out _) (by omega)).mono ?_
                rintro e w2 ⟨rfl, rfl⟩
                rw [HF.out]
                go_wp2
                go_roundw
                case rel => exact ⟨k + 1, _, by omega, by go_num, rfl, HN⟩
                case measure => simp [intOf]; omega
              | false =>
                have HN : Hid (faultOf name.data.toList m rows = (1, k)) := by show _ = _; rw [HT.out, HBK.out, if_pos HRM.out, hf]; rfl
                have HF : Hid (fits row = false) := hf
                clear hf
                go_wp2_with fail
                refine (hasLong_any _ row _ (HST.out _) (by omega)).mono ?_
                rintro e w2 ⟨rfl, rfl⟩
                rw [HF.out]
                go_wp2
                go_ret2
                exact ⟨ret_pair HN.out (by decide) (by omega), below_drewN HB0.out _⟩
            · have hne : ((row.length : Int) != (m : Int)) = true := by simp; omega
              have HN : Hid (faultOf name.data.toList m rows = (9, k)) := by show _ = _; rw [HT.out, HBK.out, if_neg hrm]; rfl
              clear hrm
              go_wp2
              go_ret2
              exact ⟨ret_pair HN.out (by decide) (by omega), below_drewN HB0.out _⟩
          · have HN : Hid (faultOf name.data.toList m rows = (0, 0)) := by
              show _ = _
              rw [HT.out, HBD.out, List.drop_of_length_le (by have := HLE.out; omega)]; rfl
            go_wp2
            go_ret2
            exact ⟨ret_pair HN.out (by decide) (by decide), below_drewN HB0.out _⟩
end Go.Proofs.YtdfbjnachakkhaaGreatDoor
