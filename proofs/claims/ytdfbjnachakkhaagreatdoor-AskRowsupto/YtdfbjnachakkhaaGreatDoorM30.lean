import Derived.Test.YtdfbjnachakkhaaGreatDoorM11
import Derived.Test.YtdfbjnachakkhaaGreatDoorM26
import Derived.Test.YtdfbjnachakkhaaGreatDoorM20
import Derived.Test.YtdfbjnachakkhaaGreatDoorM15
import Derived.Test.YtdfbjnachakkhaaGreatDoorM27
import Derived.Test.YtdfbjnachakkhaaGreatDoorM29
namespace Go.Proofs.YtdfbjnachakkhaaGreatDoor
open Go.ChangeShapes Go.WideShapes Go.ChangeAt Go.RowKit
set_option linter.unusedVariables false
theorem Deep.push {base b1 : Nat} {w1 wa w2 : World} {v v1 v2 : Value} {us : List Value} {L : List (List (List UInt8))} {row : List (List UInt8)} (hd : Deep base w1 v us L) (ho : w1.ownsRow b1 9 1 v1 row.length (ts row)) (hb : base ≤ b1) (ha : Below w1.heap.size w1 wa) (hg : wa.grownBy w2 v.ownBlock) (hown2 : w2.ownsRow base 28 1 v2 (us.length + 1) (us ++ [v1])) : Deep base w2 v2 (us ++ [v1]) (L ++ [row]) := by
  have hlen := hd.2.1
  have hv := own_below hd.1 ha
  refine ⟨by rw [List.length_append]; exact hown2, by simp [hlen], fun i x r hx hr => ?_⟩
  by_cases hik : i < us.length
  · rw [List.getElem?_append_left hik] at hx
    rw [List.getElem?_append_left (by omega)] at hr
    have h0 := own_below (hd.2.2 i x r hx hr) ha
    exact h0.kept hg (kind_ne h0 hv (by decide))
  · have hie : i = us.length := by
      have := (List.getElem?_eq_some_iff.1 hx).1
      simp at this; omega
    subst hie
    rw [List.getElem?_append_right (Nat.le_refl _), Nat.sub_self] at hx
    rw [List.getElem?_append_right (by omega), hlen, Nat.sub_self] at hr
    simp at hx hr
    subst hx
    subst hr
    have hka := own_below ho ha
    exact (own_mono hka hb).kept hg (kind_ne hka hv (by decide))
end Go.Proofs.YtdfbjnachakkhaaGreatDoor

namespace Go.Proofs.YtdfbjnachakkhaaGreatDoor
open Go.ChangeShapes Go.WideShapes Go.ChangeAt Go.RowKit Go.Hands Go.WideMaps Go.Maps
set_option linter.unusedVariables false
set_option maxRecDepth 100000
attribute [local go_sem] Oper.semAt_some
theorem Planned.grown {B P S R n : Nat} {parts given stops vt : Value} {w w' : World} (hp : Planned B P S R n parts given stops vt w) (hg : w.grownBy w' none) : Planned B P S R n parts given stops vt w' :=
  ⟨(hg.block _ (lt_of_heap hp.blk) (by simp)).trans hp.blk, own_far hp.prt hg (by simp), hp.trm.kept hg (by cases vt.ownBlock <;> simp), own_far hp.stp hg (by simp), hp.low⟩
/-- what the rounds look at -/
structure AnsI (B base S nm rm lb sb : Nat) (l : List (List UInt8)) (L : List (List (List UInt8))) (vl : Value) (D : DataW Unit) (i : Nat) (w0 w : World) : Prop where
  tx : TX base S nm rm l w vl D
  s : w.heap[sb]? = some (.cells #[.pointer (some ⟨S, 0, none⟩)] 89 (0, 0))
  lst : ∃ lv us, w.heap[lb]? = some (.cells #[lv] 22 (0, 0)) ∧ Deep B w lv us (L.take i)
  f : w0.grownBy w none
set_option maxHeartbeats 4000000 in
theorem answers_any (B b0 pb rb rc n : Nat) (name : List UInt8) (bd u : Value) (p : PPart) (v : Value) (vs : List Value) (L : List (List (List UInt8))) (w : World)
    (hparts : PartsAt 65 67 pb w bd [p] [u]) (hk : p.kind = 0) (hpn : p.atom.name = name) (hvar : ∀ t ∈ p.atom.args, t.isVar = true) (hpl : p.atom.args.length = n) (hnv : (p.atom.args.map (·.text)).Nodup) (hx : ∀ t ∈ p.atom.args, t.text.length ≤ 1000)
    (hrel : w.ownsRow B 32 3 (.slice (some ⟨rb, 0, none⟩) 1 rc) 1 [.string (str name), .int .i64 (n : Nat), v])
    (hD : Deep b0 w v vs L) (hrow : ∀ r ∈ L, r.length = n ∧ ∀ t ∈ r, t.length ≤ 1000) (hn : n ≤ 8) (hnd : L.Nodup) (hL : L.length ≤ 2000) (hname : name.length ≤ 1000) :
    Calls Tryz.prog 16 #[.agg #[bd, .slice (some ⟨rb, 0, none⟩) 1 rc]] w fun e w' => (∃ v' us, e = .returned v' ∧ Deep w.heap.size w' v' us (sortU L)) ∧ w.grownBy w' none := by
  obtain ⟨bda, bdc, hbd⟩ : ∃ a c, bd = .slice a 1 c := by obtain ⟨a, c, h⟩ := own_form hparts.own; exact ⟨a, c, h⟩
  have HP := hide hparts
  have HV := hide hvar
  have HNV := hide hnv
  have HX := hide hx
  have HRW := hide hrow
  obtain ⟨wA, HWA⟩ : ∃ wA, Hid (wA = w.alloc (.cells #[bd, .slice (some ⟨rb, 0, none⟩) 1 rc] 47)) := ⟨_, rfl⟩
  have hwA := HWA.out.symm
  have HGA : Hid (w.grownBy wA none) := by rw [HWA.out]; exact fr_alloc _ _ _
  have p0 : wA.heap[w.heap.size]? = some (.cells #[bd, .slice (some ⟨rb, 0, none⟩) 1 rc] 47) := by rw [HWA.out]; exact heap_alloc_new _ _
  have HP0 := hide p0
  have hpA : PartsAt 65 67 pb wA bd [p] [u] := HP.out.kept HGA.out (fun g h => by cases h)
  have hDA : Deep b0 wA v vs L := ⟨hD.1.kept HGA.out (by cases v.ownBlock <;> simp), hD.2.1, fun i x r h1 h2 => (hD.2.2 i x r h1 h2).kept HGA.out (by cases x.ownBlock <;> simp)⟩
  have HST := hide (store_any B b0 pb rb rc n name bd u p v vs L wA hpA hk hpn hvar (by omega) (own_far hrel HGA.out (by simp)) hDA hrow hn hnd hL hname)
  have c0 : wA.cell? ⟨w.heap.size, 0, none⟩ = some bd := cell_of p0 0 _ rfl
  have c1 : wA.cell? ⟨w.heap.size, 1, none⟩ = some (.slice (some ⟨rb, 0, none⟩) 1 rc) := cell_of p0 1 _ rfl
  have hsA : wA.heap.size = w.heap.size + 1 := by rw [HWA.out]; simp
  rw [hbd] at c0 HST hwA ⊢
  clear hparts hvar hnv hx hrow hD hrel hpA hDA p0
  obtain ⟨N, hN1⟩ : ∃ N : Nat, 30 ≤ N := ⟨30, by omega⟩
  refine (callsIn_wide (n := N)).1 ?_
  refine callsIn_of_wp_marks Tryz.func16 rfl trivial ?_ rfl
  simp only [Tryz.ntmps16, List.size_toArray, List.length_cons, List.length_nil, Nat.reduceAdd, Nat.reduceSub, Array.replicate_succ, Array.replicate_zero, List.push_toArray, List.append_toArray, List.nil_append, List.cons_append]
  gi_wp2_with fail
  refine ⟨trivial, fun h => (by cases h), ?_⟩
  refine (callsIn_wide.2 HST.out).mono ?_
  rintro e w1 ⟨base, S, nm, rm, R, ix, im, l, rows, vl, D, vr, vu, rfl, hbase, hst, hg1⟩
  have HSD := hide hst
  have HG1 := hide hg1
  clear hst hg1 HST
  have hf1 := FrS.none (S := fun _ => False) HG1.out
  have c0' := hf1.cell c0 (fun h => h)
  have c1' := hf1.cell c1 (fun h => h)
  obtain ⟨wS, HWS⟩ : ∃ wS, Hid (wS = w1.alloc (.cells #[.pointer (some ⟨S, 0, none⟩)] 89)) := ⟨_, rfl⟩
  have hwS := HWS.out.symm
  have HGS : Hid (w1.grownBy wS none) := by rw [HWS.out]; exact fr_alloc _ _ _
  have HSB : Hid (wS.heap[w1.heap.size]? = some (.cells #[.pointer (some ⟨S, 0, none⟩)] 89 (0, 0))) := by rw [HWS.out]; exact heap_alloc_new _ _
  have hfS := FrS.none (S := fun _ => False) HGS.out
  have d0 := hfS.cell c0' (fun h => h)
  have d1 := hfS.cell c1' (fun h => h)
  have d2 : wS.cell? ⟨w1.heap.size, 0, none⟩ = some (.pointer (some ⟨S, 0, none⟩)) := cell_of HSB.out 0 _ rfl
  have HGWS : Hid (w.grownBy wS none) := fr_both HGA.out (fr_both HG1.out HGS.out)
  have HRU : Hid (∀ Wd, (∃ k, Wd = wS.drewN k) → Calls Tryz.prog 27 #[.agg #[.slice bda 1 bdc, .slice (some ⟨rb, 0, none⟩) 1 rc]] Wd fun e w' => e = .returned (.agg #[.string { data := #[] }, .slice none 0 0, .int .i64 0, .slice bda 1 bdc]) ∧ Hid (wS.grownBy w' none) ∧ w'.cell? ⟨w.heap.size, 0, none⟩ = some (.slice bda 1 bdc) ∧ w'.cell? ⟨w.heap.size, 1, none⟩ = some (.slice (some ⟨rb, 0, none⟩) 1 rc) ∧ w'.cell? ⟨w1.heap.size, 0, none⟩ = some (.pointer (some ⟨S, 0, none⟩))) := by
    rintro Wd ⟨k, rfl⟩
    have hd := fr_draws wS k none
    refine (rule_any bda (some ⟨rb, 0, none⟩) 1 bdc 1 rc (wS.drewN k)).mono ?_
    rintro e w' ⟨rfl, hg⟩
    have hgg := fr_both hd hg
    have hf := FrS.none (S := fun _ => False) hgg
    exact ⟨rfl, hgg, hf.cell d0 (fun h => h), hf.cell d1 (fun h => h), hf.cell d2 (fun h => h)⟩
  have HNW : Hid (∀ Wd, Hid (wS.grownBy Wd none) → Calls Tryz.prog 33 #[.agg #[.string { data := #[] }, .slice none 0 0, .int .i64 0, .slice bda 1 bdc], .pointer (some ⟨S, 0, none⟩), .int .i64 (-1)] Wd fun e w' => ∃ Bp P parts given stops vt, e = .returned (.pointer (some ⟨P, 0, none⟩)) ∧ Hid (Planned Bp P S R n parts given stops vt w' ∧ wS.grownBy w' none) ∧ w'.cell? ⟨w.heap.size, 0, none⟩ = some (.slice bda 1 bdc) ∧ w'.cell? ⟨w.heap.size, 1, none⟩ = some (.slice (some ⟨rb, 0, none⟩) 1 rc) ∧ w'.cell? ⟨w1.heap.size, 0, none⟩ = some (.pointer (some ⟨S, 0, none⟩))) := by
    intro Wd HWd
    have hgs := fr_both HGS.out HWd.out
    have hgw := fr_both HGWS.out HWd.out
    rw [← hbd]
    refine (waysNew_any base S nm rm R pb n name l bd u p Wd vl D (HSD.out.tx.grown hgs) (HSD.out.map.kept hgs (by simp)) (HP.out.kept hgw (fun g h => by cases h)) hk hpn HV.out hpl hn HNV.out HX.out hname).mono ?_
    rintro e w' ⟨⟨P, parts, given, stops, vt, rfl, hp⟩, hg⟩
    have hgg := fr_both HWd.out hg
    have hf := FrS.none (S := fun _ => False) hgg
    rw [hbd]
    exact ⟨Wd.heap.size, P, parts, given, stops, vt, rfl, ⟨hp, hgg⟩, hf.cell d0 (fun h => h), hf.cell d1 (fun h => h), hf.cell d2 (fun h => h)⟩
  clear c0 c1 c0' c1' hf1 hfS
  gi_wp2_with fail
  refine wpIn_wide.2 ?_
  go_region_held3 (fun w' => w'.cell? ⟨w.heap.size, 0, none⟩ = some (.slice bda 1 bdc) ∧ w'.cell? ⟨w.heap.size, 1, none⟩ = some (.slice (some ⟨rb, 0, none⟩) 1 rc) ∧ w'.cell? ⟨w1.heap.size, 0, none⟩ = some (.pointer (some ⟨S, 0, none⟩))) (go_keep)
    (first
      | (go_at_call 27; refine (HRU.out _ ⟨_, rfl⟩).mono ?_; rintro e w2 ⟨rfl, HF2, e0, e1, e2⟩)
      | (go_at_call 33; refine (HNW.out _ HF2).mono ?_; rintro e w3 ⟨Bp, P, parts, given, stops, vt, rfl, HF3, f0, f1, f2⟩))
  clear HRU HNW d0 d1 d2 e0 e1 e2 f0 f1 f2
  have HPL : Hid (Planned Bp P S R n parts given stops vt w3) := HF3.out.1
  have HG3 : Hid (wS.grownBy w3 none) := HF3.out.2
  obtain ⟨wL, HWL⟩ : ∃ wL, Hid (wL = w3.alloc (.cells #[.slice none 0 0] 22)) := ⟨_, rfl⟩
  have hwL := HWL.out.symm
  have HGL : Hid (w3.grownBy wL none) := by rw [HWL.out]; exact fr_alloc _ _ _
  have HLB : Hid (wL.heap[w3.heap.size]? = some (.cells #[.slice none 0 0] 22 (0, 0))) := by rw [HWL.out]; exact heap_alloc_new _ _
  have t0 : wL.cell? ⟨w3.heap.size, 0, none⟩ = some (.slice none 0 0) := cell_of HLB.out 0 _ rfl
  have t1 := thaw_of HLB.out 0
  have t2 := setCell_same (j := 0) (v := .slice none 0 0) HLB.out rfl
  have HPW := hide (pways_any P wL)
  gi_wp2_with fail
  refine ⟨trivial, fun h => (by cases h), ?_⟩
  refine (callsIn_wide.2 HPW.out).mono ?_
  rintro e w5 ⟨rfl, hwp, hg5⟩
  have HWP := hide hwp
  have HG5 := hide hg5
  clear hwp hg5 HPW t0 t1 t2
  have HG15 : Hid (w1.grownBy w5 none) := fr_both HGS.out (fr_both HG3.out (fr_both HGL.out HG5.out))
  have HGW5 : Hid (w.grownBy w5 none) := fr_both HGA.out (fr_both HG1.out HG15.out)
  have HPL5 : Hid (Planned Bp P S R n parts given stops vt w5) := HPL.out.grown (fr_both HGL.out HG5.out)
  have HS5 : Hid (w5.heap[w1.heap.size]? = some (.cells #[.pointer (some ⟨S, 0, none⟩)] 89 (0, 0))) := ((fr_both HG3.out (fr_both HGL.out HG5.out)).block _ (lt_of_heap HSB.out) (by simp)).trans HSB.out
  have HL5 : Hid (w5.heap[w3.heap.size]? = some (.cells #[.slice none 0 0] 22 (0, 0))) := (HG5.out.block _ (lt_of_heap HLB.out) (by simp)).trans HLB.out
  have HI5 : Hid (AnsI w1.heap.size base S nm rm w3.heap.size w1.heap.size l L vl D 0 w w5) := ⟨HSD.out.tx.grown HG15.out, HS5.out, ⟨_, [], HL5.out, World.ownsRow_nil _ _ _ _, by simp, fun i x r hx => by simp at hx⟩, HGW5.out⟩
  have hrl : rows.length = L.length := by rw [← HSD.out.dec]; simp
  have hs1 : wA.heap.size ≤ w1.heap.size := HG1.out.size
  have hsS : w1.heap.size < wS.heap.size := by rw [HWS.out]; simp
  have hs3 : wS.heap.size ≤ w3.heap.size := HG3.out.size
  have hsL : w3.heap.size < wL.heap.size := by rw [HWL.out]; simp
  have hs5 : wL.heap.size ≤ w5.heap.size := HG5.out.size
  have hixl : ix < w1.heap.size := by
    rcases HSD.out.rel with ⟨_, _, _, _, _, h6, _⟩ | ⟨DM, vf, h⟩
    · obtain ⟨es, ck, hq, _⟩ := h6; exact lt_of_heap hq
    · obtain ⟨es, ck, hq, _⟩ := h.ixm; exact lt_of_heap hq
  have HFAR : Hid (S ≠ ix ∧ nm ≠ ix ∧ w.heap.size ≤ ix) := by
    obtain ⟨z, z1, z2, z3, z4, z5, z6⟩ := HSD.out.far
    have := HSD.out.tx.lowS
    exact ⟨by omega, by omega, by omega⟩
  have HVL : Hid (∀ q, vl.ownBlock = some q → q ≠ ix) := by
    rintro q hq rfl
    obtain ⟨cur, hc⟩ := own_type HSD.out.tx.lst hq
    rcases HSD.out.rel with ⟨_, _, _, _, _, h6, _⟩ | ⟨DM, vf, h⟩
    · obtain ⟨es, ck, hq, _⟩ := h6; rw [hq] at hc; cases hc
    · obtain ⟨es, ck, hq, _⟩ := h.ixm; rw [hq] at hc; cases hc
  gi_wp2_with fail
  refine rangeV (by omega) (gf := 68) (lb := #[.pointer (some ⟨wL.heap.size, 0, none⟩), .pointer (some ⟨wL.heap.size + 1, 0, none⟩)]) rfl (enters_of Tryz.func68 (by kernel_rfl) rfl)
    (pways_hands (N - 1) Bp base R ix im n wL.heap.size P S rows 0 vr vu vt parts given stops w1 w5 HSD.out.rel hn (by omega) (Nat.le_trans HSD.out.tx.lowS (Nat.le_of_lt (lt_of_heap HSD.out.tx.blk))) (FrT.none HG15.out) HWP.out HPL5.out (by omega))
    (FrT.refl _ _) (fun k o h => by have h' : k = ix := h; omega) (fun k o h => isTxt_rec h) (fun _ _ => rfl)
    (fun i W' => Hid (AnsI w1.heap.size base S nm rm w3.heap.size w1.heap.size l L vl D i w W'))
    ?low HI5 (fun x y A C h hf => frt_row hf h (fun g cur fz _ _ e => e))
    (fun x y a' W' => a' = { tmps := #[.agg #[.slice bda 1 bdc, .slice (some ⟨rb, 0, none⟩) 1 rc], .pointer (some ⟨w.heap.size, 0, none⟩), .slice none 0 0, .pointer (some ⟨w1.heap.size, 0, none⟩), .pointer (some ⟨P, 0, none⟩), .pointer (some ⟨w3.heap.size, 0, none⟩), y, .agg #[.slice bda 1 bdc, .slice (some ⟨rb, 0, none⟩) 1 rc], .pointer (some ⟨S, 0, none⟩), .agg #[.slice bda 1 bdc, .slice (some ⟨rb, 0, none⟩) 1 rc], .agg #[.string { data := #[] }, .slice none 0 0, .int .i64 0, .slice bda 1 bdc], .pointer (some ⟨S, 0, none⟩), .pointer (some ⟨P, 0, none⟩), .pointer (some ⟨P, 0, none⟩), .func (.func 68) #[] #[.pointer (some ⟨wL.heap.size, 0, none⟩), .pointer (some ⟨wL.heap.size + 1, 0, none⟩)], y, undef, undef, undef, undef, undef, undef, undef, undef, undef, undef], defers := [] })
    (fun _ _ _ _ _ h _ => h) ?assign ?body ?done
  case low =>
    rintro i A C hi hf
    have hcel : ∀ (k : Nat) (cur : Array Value) (t : TypeId) (fz : Nat × Nat), A.heap[k]? = some (.cells cur t fz) → k ≠ ix → t ≠ 4 → t ≠ 3 → C.heap[k]? = some (.cells cur t fz) := by
      intro k cur t fz hk n0 n1 n2
      refine hf.block k _ hk ?_
      rintro (h | ⟨_, h | h | h⟩)
      · exact n0 h
      · exact h
      · obtain ⟨q, e⟩ := h; cases e; exact n1 rfl
      · obtain ⟨q, e⟩ := h; cases e; exact n2 rfl
    have hrow : ∀ {b1 : Nat} {e : TypeId} {size : Nat} {v : Value} {m : Nat} {xs : List Value}, A.ownsRow b1 e size v m xs → (∀ g, v.ownBlock = some g → g ≠ ix) → e ≠ 4 → e ≠ 3 → C.ownsRow b1 e size v m xs :=
      fun h0 hne n1 n2 => row_kept h0 (fun g cur fz hv hg => (hcel g cur _ fz hg (hne g hv) n1 n2).trans hg.symm)
    obtain ⟨f1, f2, f3⟩ := HFAR.out
    obtain ⟨tx, st, ⟨lv, us, hlb, hdp⟩, hfw⟩ := hi.out
    refine ⟨⟨hcel _ _ _ _ tx.blk f1 (by decide) (by decide), hrow tx.lst HVL.out (by decide) (by decide), frt_map hf tx.num ?_, tx.nmd, tx.lens, tx.lowS, tx.lowN⟩, hcel _ _ _ _ st (by omega) (by decide) (by decide), ⟨lv, us, hcel _ _ _ _ hlb (by omega) (by decide) (by decide), hrow hdp.1 (fun g hg => by have := (own_blk hdp.1 hg).1; omega) (by decide) (by decide), hdp.2.1, fun j x r h1 h2 => hrow (hdp.2.2 j x r h1 h2) (fun g hg => by have := (own_blk (hdp.2.2 j x r h1 h2) hg).1; omega) (by decide) (by decide)⟩, ?_⟩
    · rintro es ck (h | ⟨_, h | h | h⟩)
      · exact f2 h
      · exact h
      · obtain ⟨q, e⟩ := h; cases e
      · obtain ⟨q, e⟩ := h; cases e
    · refine ⟨hf.os.trans hfw.os, hf.tape.trans hfw.tape, hf.output.trans hfw.output, Nat.le_trans hfw.size hf.size, fun k hk _ => ?_⟩
      have h1 := hfw.block k hk (by simp)
      have h2 : w.heap[k]? = some w.heap[k] := Array.getElem?_eq_getElem hk
      rw [h2] at h1 ⊢
      refine hf.block k _ h1 ?_
      rintro (h | ⟨h, _⟩)
      · have h' : k = ix := h; omega
      · omega
  case assign =>
    rintro l' i x y W' K hx _ _ hK
    have HK := hide hK
    clear hK
    gi_wp2
    exact HK.out _ _ (FrT.refl _ _) rfl
  case body =>
    rintro l' i x y a' W1 hx HI1 hf1 rfl hl'
    have hil : i < rows.length := (List.getElem?_eq_some_iff.1 hx).1
    have h8 := (HSD.out.rel.rok x (List.mem_of_getElem? hx)).1
    have hxl : (x.take n).length = n := by rw [List.length_take]; omega
    have hLi : L[i]? = some (decR l n x) := by rw [← HSD.out.dec, List.getElem?_map, hx]; rfl
    have hLn : L.take (i + 1) = L.take i ++ [decR l n x] := by
      obtain ⟨h1, h2⟩ := List.getElem?_eq_some_iff.1 hLi
      rw [List.take_succ_eq_append_getElem h1, h2]
    have HLN := hide hLn
    obtain ⟨tx, st, ⟨lv, us, hlb, hdp⟩, hfw⟩ := HI1.out
    obtain ⟨ya, yc, hye⟩ := own_form hf1
    have hks : W1.ownsRow 0 3 1 y (x.take n).length (numV (x.take n)) := by rw [hxl]; exact hf1
    have hdl : (decR l n x).length = n := by unfold decR; rw [List.length_map, hxl]
    have hml : us.length = i := by rw [hdp.2.1, List.length_take]; omega
    have HTO : Hid (Calls Tryz.prog 36 #[.pointer (some ⟨S, 0, none⟩), y] W1.drew fun e w' => ∃ ta tc, e = .returned (.slice ta n tc) ∧ Hid (w'.ownsRow W1.heap.size 9 1 (.slice ta n tc) n (ts (decR l n x)) ∧ W1.grownBy w' none)) := by
      have hd := fr_draws W1 1 none
      refine (textsOf_any base S nm rm 0 l (x.take n) y W1.drew vl D (tx.grown hd) (hks.kept hd (by cases y.ownBlock <;> simp)) (HSD.out.inT x (List.mem_of_getElem? hx)) (by have := HSD.out.len; omega) (by omega)).mono ?_
      rintro e w' ⟨⟨v', rfl, hv⟩, hg⟩
      rw [hxl] at hv
      obtain ⟨ta, tc, rfl⟩ := own_form hv
      exact ⟨ta, tc, rfl, hv, fr_both hd hg⟩
    obtain ⟨i3, hi3, hz0, hz1, hz2⟩ := info_parts infoRow
    have HFIN : Hid (∀ (w2 : World) (ta : Option Addr) (tc : Nat), Hid (w2.ownsRow W1.heap.size 9 1 (.slice ta n tc) n (ts (decR l n x)) ∧ W1.grownBy w2 none) → w2.cell? ⟨w3.heap.size, 0, none⟩ = some lv ∧ w2.cell? ⟨w1.heap.size, 0, none⟩ = some (.pointer (some ⟨S, 0, none⟩)) ∧ ∃ wb, w2.alloc (.cells #[.slice ta n tc] 28) = wb ∧ wb.cell? ⟨w3.heap.size, 0, none⟩ = some lv ∧ wb.cell? ⟨w1.heap.size, 0, none⟩ = some (.pointer (some ⟨S, 0, none⟩)) ∧ ∃ (g2 cp2 : Nat) (w4 : World), (Builtin.append_ #[22, 22] 22 #[lv, .slice (some ⟨w2.heap.size, 0, none⟩) 1 1]).run Tryz.prog wb = .ok (.slice (some ⟨g2, 0, none⟩) (i + 1) cp2) w4 ∧ w4.cell? ⟨w3.heap.size, 0, none⟩ = some lv ∧ w4.frozen? ⟨w3.heap.size, 0, none⟩ = false ∧ w4.cell? ⟨w1.heap.size, 0, none⟩ = some (.pointer (some ⟨S, 0, none⟩)) ∧ ∃ w6, w4.setCell ⟨w3.heap.size, 0, none⟩ (.slice (some ⟨g2, 0, none⟩) (i + 1) cp2) = w6 ∧ w6.cell? ⟨w1.heap.size, 0, none⟩ = some (.pointer (some ⟨S, 0, none⟩)) ∧ Hid (Hid (AnsI w1.heap.size base S nm rm w3.heap.size w1.heap.size l L vl D (i + 1) w w6) ∧ FrT (fun _ o => isTxt o) W1 w6)) := by
      rintro w2 ta tc ⟨hv2, hg2⟩
      have hf2 := FrS.none (S := fun _ => False) hg2
      have hgb : W1.grownBy (w2.alloc (.cells #[.slice ta n tc] 28)) none := fr_both hg2 (fr_alloc _ _ none)
      have hfb := FrS.none (S := fun _ => False) hgb
      have l1 : W1.cell? ⟨w3.heap.size, 0, none⟩ = some lv := cell_of hlb 0 _ rfl
      have s1 : W1.cell? ⟨w1.heap.size, 0, none⟩ = some (.pointer (some ⟨S, 0, none⟩)) := cell_of st 0 _ rfl
      have hd2 : Deep w1.heap.size w2 lv us (L.take i) := ⟨hdp.1.kept hg2 (by cases lv.ownBlock <;> simp), hdp.2.1, fun j z r h1 h2 => (hdp.2.2 j z r h1 h2).kept hg2 (by cases z.ownBlock <;> simp)⟩
      have hW1s : w1.heap.size ≤ W1.heap.size := Nat.le_of_lt (lt_of_heap st)
      obtain ⟨g2, cp2, w4, hap, hown4, hg4, hor, _⟩ := run_append_lies (P := Tryz.prog) (w2.alloc (.cells #[.slice ta n tc] 28)) 22 22 w1.heap.size 28 i3 (.slice none 0 0) 1 24 Tryz.underlying22 hi3 hz0 hz1 hz2 rfl (by decide) lv us.length us (hdp.1.kept hgb (by cases lv.ownBlock <;> simp)) ⟨w2.heap.size, 0, none⟩ 1 1 [.slice ta n tc] rfl (fun j q hj => cell_new8 w2 _ _ _ j q hj) (fun q hq => by simp at hq; subst hq; rfl) (by decide) (by unfold maxLen; omega) (by omega) (Nat.le_trans hW1s hgb.size) _ rfl
      have hlvb : ∀ q, lv.ownBlock = some q → w1.heap.size ≤ q ∧ ∃ cur, W1.heap[q]? = some (.cells cur 28 (0, 0)) := fun q hq => ⟨(own_blk hdp.1 hq).1, own_type hdp.1 hq⟩
      have hne3 : ¬ lv.ownBlock = some w3.heap.size := fun e => by
        obtain ⟨_, cur, hc⟩ := hlvb _ e
        rw [hlb] at hc; cases hc
      have hne1 : ¬ lv.ownBlock = some w1.heap.size := fun e => by
        obtain ⟨_, cur, hc⟩ := hlvb _ e
        rw [st] at hc; cases hc
      have hf4 : FrS (fun j => lv.ownBlock = some j) W1 w4 := FrS.trans (FrS.none (S := fun j => lv.ownBlock = some j) hgb) (FrS.of (S := fun j => lv.ownBlock = some j) hg4 (fun g e => .inl e)) (fun j _ e => e)
      have b4 : w4.heap[w3.heap.size]? = some (.cells #[lv] 22 (0, 0)) := (hf4.block _ (lt_of_heap hlb) hne3).trans hlb
      have hf6 : FrS (fun j => lv.ownBlock = some j ∨ j = w3.heap.size) W1 (w4.setCell ⟨w3.heap.size, 0, none⟩ (.slice (some ⟨g2, 0, none⟩) (i + 1) cp2)) := FrS.trans (hf4.mono (fun j _ e => .inl e)) (FrS.of (S := fun j => j = w3.heap.size) (fr_set w4 w3.heap.size 0 _) (fun g e => .inl (Option.some.inj e).symm)) (fun j _ e => .inr e)
      have hne31 : ¬ w1.heap.size = w3.heap.size := by omega
      rw [hml] at hap
      refine ⟨hf2.cell l1 (fun h => h), hf2.cell s1 (fun h => h), _, rfl, hfb.cell l1 (fun h => h), hfb.cell s1 (fun h => h), g2, cp2, w4, hap, cell_of b4 0 _ rfl, thaw_of b4 0, hf4.cell s1 hne1, _, rfl, hf6.cell s1 (fun e => e.elim hne1 hne31), ⟨⟨?_, ?_, ?_, ?_⟩, ?_⟩⟩
      · refine tx.kept hf6 ?_ ?_ ?_
        · rintro (e | e)
          · obtain ⟨_, cur, hc⟩ := hlvb _ e
            have := tx.blk
            rw [hc] at this; cases this
          · have := tx.blk
            rw [show S = w3.heap.size from e, hlb] at this; cases this
        · obtain ⟨es, ck, hq, _⟩ := tx.num
          rintro (e | e)
          · obtain ⟨_, cur, hc⟩ := hlvb _ e
            rw [hc] at hq; cases hq
          · rw [show nm = w3.heap.size from e, hlb] at hq; cases hq
        · rintro g cur fz _ hg (e | e)
          · obtain ⟨_, cur', hc⟩ := hlvb _ e
            rw [hc] at hg; cases hg
          · rw [show g = w3.heap.size from e, hlb] at hg; cases hg
      · exact (hf6.block _ (lt_of_heap st) (fun e => e.elim hne1 hne31)).trans st
      · refine ⟨_, us ++ [.slice ta n tc], blk_set b4 0 _, ?_⟩
        have hpush : Deep w1.heap.size w4 (.slice (some ⟨g2, 0, none⟩) (us.length + 1) cp2) (us ++ [.slice ta n tc]) (L.take i ++ [decR l n x]) := Deep.push hd2 (by rw [hdl]; exact hv2) hW1s (Below.refl _ _ |>.alloc (Nat.le_refl _) _) hg4 hown4
        rw [hml] at hpush
        rw [HLN.out]
        have hkk : ∀ {b1 : Nat} {e : TypeId} {size : Nat} {z : Value} {m : Nat} {xs : List Value}, w4.ownsRow b1 e size z m xs → e ≠ 22 → (w4.setCell ⟨w3.heap.size, 0, none⟩ (.slice (some ⟨g2, 0, none⟩) (i + 1) cp2)).ownsRow b1 e size z m xs := fun h0 n1 => row_kept h0 (fun g cur fz hv hg => (fr_set w4 w3.heap.size 0 _).block g (lt_of_heap hg) (fun e => by
          have e' := Option.some.inj e
          rw [e', b4] at hg; cases hg; exact n1 rfl))
        exact ⟨hkk hpush.1 (by decide), hpush.2.1, fun j z r h1 h2 => hkk (hpush.2.2 j z r h1 h2) (by decide)⟩
      · exact fr_far hfw hf6 (fun j hj e => by
          rcases e with e | e
          · have := (hlvb j e).1; omega
          · omega)
      · refine frs_frt hf6 (fun k o e ho => ?_)
        rcases e with e | e
        · obtain ⟨_, cur, hc⟩ := hlvb k e
          rw [hc] at ho; cases ho; exact ⟨_, _, _, rfl, .inl rfl⟩
        · rw [e, hlb] at ho; cases ho; exact ⟨_, _, _, rfl, .inr rfl⟩
    rw [hye] at HTO
    have hmx : Tryz.prog.follows .mixedOrders = true := by kernel_rfl
    have HS : (fun W : World => W.cell? ⟨w1.heap.size, 0, none⟩ = some (.pointer (some ⟨S, 0, none⟩))) W1.drew := cell_of (show W1.drew.heap[w1.heap.size]? = _ from st) 0 _ rfl
    have c0 : W1.drew.cell? ⟨w3.heap.size, 0, none⟩ = some lv := cell_of (show W1.drew.heap[w3.heap.size]? = _ from hlb) 0 _ rfl
    clear tx st hlb hdp hfw hks hdl hml h8 hxl hLi hLn hf1 hx hl'
    gi_wp2_with fail
    refine region_round (fun W : World => W.cell? ⟨w1.heap.size, 0, none⟩ = some (.pointer (some ⟨S, 0, none⟩))) (fun _ w' => Hid (Hid (AnsI w1.heap.size base S nm rm w3.heap.size w1.heap.size l L vl D (i + 1) w w') ∧ FrT (fun _ o => isTxt o) W1 w')) hmx (by kernel_rfl) ?reg ?rest
    case reg =>
      refine wpAnyH_take (i := 1) (v := .pointer (some ⟨S, 0, none⟩)) rfl (by kernel_rfl) (by kernel_rfl) (by kernel_rfl) (fun _ _ _ h => (by cases h.1)) (Or.inl ⟨by rfl, fun W s0 => ?_⟩) HS ?_
      · go_simp
      try simp only [Act.put, List.setIfInBounds_toArray]
      refine wpAnyH_take (i := 2) (v := .pointer (some ⟨S, 0, none⟩)) rfl (by kernel_rfl) (by kernel_rfl) (by kernel_rfl) (fun _ _ _ h => (by cases h.1)) (Or.inl ⟨by rfl, fun W s0 => ?_⟩) HS ?_
      · go_simp
      try simp only [Act.put]
      refine wpAnyH_take (i := 3) (v := .pointer (some ⟨S, 0, none⟩)) rfl (by kernel_rfl) (by kernel_rfl) (by kernel_rfl) (fun _ _ _ h => (by cases h.1)) (Or.inl ⟨by rfl, fun W s0 => ?_⟩) HS ?_
      · go_simp
      try simp only [Act.put]
      refine wpAnyH_take (i := 4) (v := y) rfl (by kernel_rfl) (by kernel_rfl) (by kernel_rfl) (fun _ _ _ h => (by cases h.1)) (Or.inl ⟨by rfl, fun W s0 => ?_⟩) HS ?_
      · go_simp
      try simp only [Act.put]
      refine wpAnyH_ready (rs := [0, 5]) (by kernel_rfl) (by simp) (AllReadyH.cons rfl (fun K hK => ?_) (AllReadyH.cons rfl (fun K hK => ?_) AllReadyH.nil))
      · go_simp
        refine hK.out _ _ HS (fun _ => ?_)
        clear hK K
        refine wpAnyH_ready (rs := [5]) (by kernel_rfl) (by simp) (AllReadyH.cons rfl (fun K hK => ?_) AllReadyH.nil)
        go_simp
        refine HTO.out.mono ?_
        rintro e w2 ⟨ta, tc, rfl, HV2⟩
        obtain ⟨l2, s2, wb, hwb, lb2, sb2, g2, cp2, w4, hap, l4, t4, s4, w6, hw6, s6, HE⟩ := HFIN.out w2 ta tc HV2
        refine hK.out _ _ s2 (fun _ => ?_)
        clear hK K
        try simp only [Act.put, List.setIfInBounds_toArray, List.set_cons_zero, List.set_cons_succ]
        refine wpAnyH_ready (rs := [6]) (by kernel_rfl) (by simp) (AllReadyH.cons rfl (fun K hK => ?_) AllReadyH.nil)
        go_simp
        refine hK.out _ _ sb2 (fun _ => ?_)
        clear hK K
        refine wpAnyH_ready (rs := [7]) (by kernel_rfl) (by simp) (AllReadyH.cons rfl (fun K hK => ?_) AllReadyH.nil)
        refine step_append_run rfl _ _ _ rfl rfl rfl hap (hK.out _ _ s4 (fun _ => ?_))
        simp only [Act.put, List.setIfInBounds_toArray]
        clear hK K
        refine wpAnyH_ready (rs := [8]) (by kernel_rfl) (by simp) (AllReadyH.cons rfl (fun K hK => ?_) AllReadyH.nil)
        go_simp
        refine hK.out _ _ s6 (fun _ => ?_)
        exact wpAnyH_done (by kernel_rfl) ⟨rfl, HE⟩ _
      · go_simp
        refine HTO.out.mono ?_
        rintro e w2 ⟨ta, tc, rfl, HV2⟩
        obtain ⟨l2, s2, wb, hwb, lb2, sb2, g2, cp2, w4, hap, l4, t4, s4, w6, hw6, s6, HE⟩ := HFIN.out w2 ta tc HV2
        refine hK.out _ _ s2 (fun _ => ?_)
        clear hK K
        try simp only [Act.put, List.setIfInBounds_toArray, List.set_cons_zero, List.set_cons_succ]
        refine wpAnyH_ready (rs := [0, 6]) (by kernel_rfl) (by simp) (AllReadyH.cons rfl (fun K hK => ?_) (AllReadyH.cons rfl (fun K hK => ?_) AllReadyH.nil))
        · go_simp
          refine hK.out _ _ s2 (fun _ => ?_)
          clear hK K
          refine wpAnyH_ready (rs := [6]) (by kernel_rfl) (by simp) (AllReadyH.cons rfl (fun K hK => ?_) AllReadyH.nil)
          go_simp
          refine hK.out _ _ sb2 (fun _ => ?_)
          clear hK K
          refine wpAnyH_ready (rs := [7]) (by kernel_rfl) (by simp) (AllReadyH.cons rfl (fun K hK => ?_) AllReadyH.nil)
          refine step_append_run rfl _ _ _ rfl rfl rfl hap (hK.out _ _ s4 (fun _ => ?_))
          simp only [Act.put, List.setIfInBounds_toArray]
          clear hK K
          refine wpAnyH_ready (rs := [8]) (by kernel_rfl) (by simp) (AllReadyH.cons rfl (fun K hK => ?_) AllReadyH.nil)
          go_simp
          refine hK.out _ _ s6 (fun _ => ?_)
          exact wpAnyH_done (by kernel_rfl) ⟨rfl, HE⟩ _
        · go_simp
          refine hK.out _ _ sb2 (fun _ => ?_)
          clear hK K
          refine wpAnyH_ready (rs := [0]) (by kernel_rfl) (by simp) (AllReadyH.cons rfl (fun K hK => ?_) AllReadyH.nil)
          go_simp
          refine hK.out _ _ sb2 (fun _ => ?_)
          clear hK K
          refine wpAnyH_ready (rs := [7]) (by kernel_rfl) (by simp) (AllReadyH.cons rfl (fun K hK => ?_) AllReadyH.nil)
          refine step_append_run rfl _ _ _ rfl rfl rfl hap (hK.out _ _ s4 (fun _ => ?_))
          simp only [Act.put, List.setIfInBounds_toArray]
          clear hK K
          refine wpAnyH_ready (rs := [8]) (by kernel_rfl) (by simp) (AllReadyH.cons rfl (fun K hK => ?_) AllReadyH.nil)
          go_simp
          refine hK.out _ _ s6 (fun _ => ?_)
          exact wpAnyH_done (by kernel_rfl) ⟨rfl, HE⟩ _
    case rest =>
      rintro a4 w4 h
      exact ⟨rfl, h.out⟩
  case done =>
    rintro D' W' hD' HID hd hfr
    obtain ⟨tx, st, ⟨lv, us, hlb, hdp⟩, hfw⟩ := HID.out
    rw [hrl, List.take_length] at hdp
    have HFW := hide hfw
    have HDD := hide hd
    have u0 : W'.cell? ⟨w3.heap.size, 0, none⟩ = some lv := cell_of hlb 0 _ rfl
    have HSE := hide (settle_any w1.heap.size n lv us L W' hdp (by omega) (fun r hr => (HRW.out r hr).1) (by omega))
    have hdpo := hdp.1
    have hob : ∀ k, lv.ownBlock = some k → w1.heap.size ≤ k ∧ ∃ cur, W'.heap[k]? = some (.cells cur 28 (0, 0)) := fun k hk => ⟨(own_blk hdpo hk).1, own_type hdpo hk⟩
    have HOB := hide hob
    clear hd hfr tx st hlb hdp hfw hob hdpo
    gi_wp2_with fail
    refine ⟨trivial, fun h => (by cases h), ?_⟩
    refine (callsIn_wide.2 HSE.out).mono ?_
    rintro e W3 ⟨⟨v', us', rfl, hdp3⟩, hg3⟩
    have HDP3 := hide hdp3
    have HG3' := hide hg3
    have HDD3 : Hid (W3.heap[D']? = some (.deferred (some []))) := (hg3.block _ (lt_of_heap HDD.out) (fun e => by
      obtain ⟨_, cur, hc⟩ := HOB.out D' e.symm
      rw [HDD.out] at hc; cases hc)).trans HDD.out
    clear hdp3 hg3
    gi_wp2
    refine ⟨by simp, .inl ⟨_, _, rfl, run_takeDeferred HDD3.out, ?_⟩⟩
    have hDp : FrT (fun k o => k = D' ∧ isRec o) W3 (W3.putObj D' (.deferred none)) := FrT.put W3 D' _ (fun o ho => by rw [HDD3.out] at ho; cases ho; exact ⟨rfl, trivial⟩)
    have hww : w.heap.size ≤ w1.heap.size := Nat.le_trans HGA.out.size hs1
    have hgw3 : w.grownBy W3 none := fr_far HFW.out (FrS.of (S := fun j => lv.ownBlock = some j) HG3'.out (fun g e => .inl e)) (fun j hj e => by have := (HOB.out j e).1; omega)
    have hrk : ∀ {b1 : Nat} {e : TypeId} {size : Nat} {z : Value} {m : Nat} {xs : List Value}, W3.ownsRow b1 e size z m xs → w.heap.size ≤ b1 → (W3.putObj D' (.deferred none)).ownsRow w.heap.size e size z m xs := fun h0 hb => own_lower (frt_row hDp h0 (fun g cur fz _ _ e => e.2)) hb
    refine ⟨_, results_tmp rfl _ _ _, ⟨v', us', rfl, hrk HDP3.out.1 hww, HDP3.out.2.1, fun j z r h1 h2 => hrk (HDP3.out.2.2 j z r h1 h2) hww⟩, ?_⟩
    refine ⟨hDp.os.trans hgw3.os, hDp.tape.trans hgw3.tape, hDp.output.trans hgw3.output, Nat.le_trans hgw3.size hDp.size, fun k hk _ => ?_⟩
    have h1 := hgw3.block k hk (by simp)
    have h2 : w.heap[k]? = some w.heap[k] := Array.getElem?_eq_getElem hk
    rw [h2] at h1 ⊢
    exact hDp.block k _ h1 (fun e => by have := e.1; omega)
end Go.Proofs.YtdfbjnachakkhaaGreatDoor
