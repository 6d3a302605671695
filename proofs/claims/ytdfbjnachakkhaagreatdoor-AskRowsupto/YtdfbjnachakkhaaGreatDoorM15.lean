import Derived.Test.YtdfbjnachakkhaaGreatDoorM12
import Derived.Test.YtdfbjnachakkhaaGreatDoorM14
namespace Go.Proofs.YtdfbjnachakkhaaGreatDoor
open Go.ChangeShapes Go.WideShapes Go.ChangeAt Go.RowKit Go.Hands Go.WideMaps Go.Maps
set_option linter.unusedVariables false
set_option maxRecDepth 100000
/-- no row is struck -/
def Spares (ab rlb : Nat) (vs : List Value) (w : World) : Prop := ∀ W : World, w.grownBy W none → ∀ x ∈ vs, Calls Tryz.prog 58 #[x, .pointer (some ⟨ab, 0, none⟩), .pointer (some ⟨rlb, 0, none⟩)] W fun e w' => e = .returned (.bool false) ∧ W.grownBy w' none
set_option maxHeartbeats 1000000 in
theorem indexRows_none (base ab rlb : Nat) (v : Value) (vs : List Value) (w : World) (h : w.ownsRow base 28 1 v vs.length vs) (hs : Spares ab rlb vs w) (hl : vs.length ≤ 1000000) :
    Calls Tryz.prog 97 #[v, .func (.func 58) #[] #[.pointer (some ⟨ab, 0, none⟩), .pointer (some ⟨rlb, 0, none⟩)]] w fun e w' => e = .returned (.int .i64 (-1)) ∧ w.grownBy w' none := by
  have EG := enterS1
  have HO := hide h
  have HS := hide hs
  obtain ⟨va, vc, hve⟩ := own_form h
  obtain ⟨n, HN⟩ : ∃ n, Hid (n = vs.length) := ⟨_, rfl⟩
  rw [← HN.out] at hve hl
  rw [hve]
  clear h hs
  go_enter Tryz.func97, Tryz.ntmps97
  go_wp2
  go_loopw [8] (fun iv wr => ∃ k : Nat, k ≤ n ∧ iv = .int .i64 k ∧ Hid (w.grownBy wr none)) (fun iv _ => n - (intOf iv).toNat)
  case atStart => exact ⟨0, by omega, rfl, fr_refl _ _⟩
  case round =>
    obtain ⟨k, hk, rfl, HG⟩ := hrel
    by_cases hlt : k < n
    · have hlt' : k < vs.length := by rw [← HN.out]; exact hlt
      obtain ⟨g, hg⟩ : ∃ g, va = some ⟨g, 0, none⟩ := by
        rcases HO.out.2 with ⟨e, e0⟩ | ⟨g, cap, cur, e, _⟩
        · omega
        · rw [hve] at e; injection e with e1 e2 e3; exact ⟨g, e1⟩
      have hob : v.ownBlock = some g := by rw [hve, hg]; rfl
      obtain ⟨x, HX⟩ : ∃ x, Hid (vs[k]? = some x) := ⟨_, List.getElem?_eq_getElem hlt'⟩
      have c0 := own_cell HO.out hob k x HX.out
      have c1 := (FrS.none (S := fun _ => False) HG.out).cell c0 (by simp)
      have HCA := hide (HS.out wr HG.out x (List.mem_of_getElem? HX.out))
      rw [hg]
      clear c0 hob
      go_wp2_with fail
      refine HCA.out.mono ?_
      rintro e w2 ⟨rfl, hg2⟩
      have HG2 : Hid (w.grownBy w2 none) := fr_both HG.out hg2
      clear hg2
      go_wp2
      go_roundw
      case rel => exact ⟨k + 1, by omega, by go_num, HG2⟩
      case measure => simp [intOf]; omega
    · go_wp2
      go_ret
      exact ⟨rfl, HG.out⟩
set_option maxHeartbeats 1000000 in
theorem deleteRows_none (base ab rlb : Nat) (v : Value) (vs : List Value) (w : World) (h : w.ownsRow base 28 1 v vs.length vs) (hs : Spares ab rlb vs w) (hl : vs.length ≤ 1000000) :
    Calls Tryz.prog 57 #[v, .func (.func 58) #[] #[.pointer (some ⟨ab, 0, none⟩), .pointer (some ⟨rlb, 0, none⟩)]] w fun e w' => e = .returned v ∧ w.grownBy w' none := by
  have HIX := hide (indexRows_none base ab rlb v vs w h hs hl)
  clear h hs
  go_enter Tryz.func57, Tryz.ntmps57
  go_wp2_with fail
  refine HIX.out.mono ?_
  rintro e w1 ⟨rfl, hg1⟩
  have HG1 := hide hg1
  clear hg1
  go_wp2
  go_ret
  exact ⟨rfl, HG1.out⟩
end Go.Proofs.YtdfbjnachakkhaaGreatDoor

namespace Go.Proofs.YtdfbjnachakkhaaGreatDoor
open Go.ChangeShapes Go.WideShapes Go.ChangeAt Go.RowKit Go.Hands Go.WideMaps Go.Maps
set_option linter.unusedVariables false
set_option maxRecDepth 100000
/-- what is stored is there already -/
theorem setCell_same {w : World} {b j : Nat} {v : Value} {arr : Array Value} {t : TypeId} {fz : Nat × Nat} (h : w.heap[b]? = some (.cells arr t fz)) (hv : arr[j]? = some v) : w.setCell ⟨b, j, none⟩ v = w := by
  have hs : arr.setIfInBounds j v = arr := by
    apply Array.ext_getElem?
    intro i
    rw [Array.getElem?_setIfInBounds]
    split
    · rename_i e
      subst e
      split
      · exact hv.symm
      · rename_i h2
        rw [Array.getElem?_eq_none (by omega)]
    · rfl
  have hh : (w.setCell ⟨b, j, none⟩ v).heap = w.heap := by
    apply Array.ext_getElem?
    intro i
    by_cases e : i = b
    · subst e
      rw [blk_set h j v, hs, h]
    · exact Below.heap_setCell _ _ _ _ e
  unfold World.setCell at hh ⊢
  cases w
  simp only at hh
  rw [hh]
/-- a store with one relation, which has turned -/
structure Stored (base S nm rm R ix im n : Nat) (name : List UInt8) (l : List (List UInt8)) (rows : List (List Nat)) (L : List (List (List UInt8))) (w : World) (vl : Value) (D : DataW Unit) (vr vu : Value) : Prop where
  tx : TX base S nm rm l w vl D
  rel : RelX base R ix im n rows 0 rows.length w vr vu
  map : w.ownsMap Tryz.prog 9 heldA rm 1 (Done name R)
  dec : rows.map (decR l n) = L
  inT : InT l n rows
  len : l.length ≤ 8 * L.length
  far : ∃ z, S < z ∧ nm < z ∧ rm < z ∧ z ≤ R ∧ z ≤ ix ∧ z ≤ im
set_option maxHeartbeats 1000000 in
theorem store_any (B b0 pb rb rc n : Nat) (name : List UInt8) (bd u : Value) (p : PPart) (v : Value) (vs : List Value) (L : List (List (List UInt8))) (w : World)
    (hparts : PartsAt 65 67 pb w bd [p] [u]) (hk : p.kind = 0) (hpn : p.atom.name = name) (hvar : ∀ t ∈ p.atom.args, t.isVar = true) (hpl : p.atom.args.length ≤ 1000000)
    (hrel : w.ownsRow B 32 3 (.slice (some ⟨rb, 0, none⟩) 1 rc) 1 [.string (str name), .int .i64 (n : Nat), v])
    (hD : Deep b0 w v vs L) (hrow : ∀ r ∈ L, r.length = n ∧ ∀ t ∈ r, t.length ≤ 1000) (hn : n ≤ 8) (hnd : L.Nodup) (hL : L.length ≤ 2000) (hname : name.length ≤ 1000) :
    Calls Tryz.prog 32 #[.agg #[bd, .slice (some ⟨rb, 0, none⟩) 1 rc]] w fun e w' => ∃ base S nm rm R ix im l rows vl D vr vu, e = .returned (.pointer (some ⟨S, 0, none⟩)) ∧ w.heap.size ≤ base ∧ Stored base S nm rm R ix im n name l rows L w' vl D vr vu ∧ w.grownBy w' none := by
  obtain ⟨bda, bdc, hbd⟩ : ∃ a c, bd = .slice a 1 c := by obtain ⟨a, c, h⟩ := own_form hparts.own; exact ⟨a, c, h⟩
  have HP := hide hparts
  have HR := hide hrel
  have HD := hide hD
  have HV := hide hvar
  have HRW := hide hrow
  have HND := hide hnd
  have q0 := own_cell hrel (g := rb) rfl 0 _ rfl
  have q1 := own_cell hrel (g := rb) rfl 1 _ rfl
  have q2 := own_cell hrel (g := rb) rfl 2 _ rfl
  obtain ⟨va, vc, hve⟩ := own_form hD.1
  have hvl : vs.length = L.length := hD.2.1
  obtain ⟨m, HML⟩ : ∃ m, Hid (m = vs.length) := ⟨_, rfl⟩
  rw [← HML.out] at hve
  rw [hve] at q2
  rw [hbd]
  obtain ⟨wA, HWA⟩ : ∃ wA, Hid (wA = w.alloc (.cells #[.slice bda 1 bdc, .slice (some ⟨rb, 0, none⟩) 1 rc] 47)) := ⟨_, rfl⟩
  have hwA := HWA.out.symm
  have HGA : Hid (w.grownBy wA none) := by rw [HWA.out]; exact fr_alloc _ _ _
  have hbl : wA.heap[w.heap.size]? = some (.cells #[.slice bda 1 bdc, .slice (some ⟨rb, 0, none⟩) 1 rc] 47) := by rw [HWA.out]; exact heap_alloc_new _ _
  have HA0 : Hid (wA.cell? ⟨w.heap.size, 0, none⟩ = some (.slice bda 1 bdc)) := cell_of hbl 0 _ rfl
  have HA1 : Hid (wA.cell? ⟨w.heap.size, 1, none⟩ = some (.slice (some ⟨rb, 0, none⟩) 1 rc)) := cell_of hbl 1 _ rfl
  clear hparts hrel hD hvar hrow hnd hbl
  go_enter Tryz.func32, Tryz.ntmps32
  go_wp2_with fail
  refine (new_any wA).mono ?_
  rintro _ w1 ⟨S, nm, rm, rfl, htx, hrm, hnr, hrl, hg1⟩
  have HT1 := hide htx
  have HM1 := hide hrm
  have HG1 : Hid (w.grownBy w1 none) := fr_both HGA.out hg1
  have f1 := FrS.none (S := fun _ => False) hg1
  have a0 := f1.cell HA0.out (fun h => h)
  have a1 := f1.cell HA1.out (fun h => h)
  have hwq : w.heap.size < wA.heap.size := by rw [HWA.out]; simp
  have hs1 : wA.heap.size ≤ w1.heap.size := hg1.size
  clear htx hrm hg1 f1
  go_wp2_with fail
  have HAT := hide (qatoms_any pb bd bd p u w1 (HP.out.kept HG1.out (fun g h => by cases h)) (some ⟨rb, 0, none⟩) 1 rc hk (by rw [hpn]; exact hname))
  rw [hbd] at HAT
  refine HAT.out.mono ?_
  rintro _ w2 ⟨am, g, c, rfl, ham, hmap, hrowA, hg2⟩
  rw [hpn] at hmap hrowA
  have HT2 := hide (HT1.out.grown hg2)
  have HM2 := hide (HM1.out.kept hg2 (by simp))
  have HMA := hide hmap
  have HRA := hide hrowA
  have HG2 : Hid (w.grownBy w2 none) := fr_both HG1.out hg2
  have f2 := FrS.none (S := fun _ => False) hg2
  have b1 := f2.cell a1 (fun h => h)
  have hs2 : w1.heap.size ≤ w2.heap.size := hg2.size
  clear hmap hrowA hg2 f2 HAT a0 a1
  obtain ⟨wC, HWC⟩ : ∃ wC, Hid (wC = w2.alloc (.cells #[.map (some am)] 127)) := ⟨_, rfl⟩
  have hwC := HWC.out.symm
  have HGC : Hid (w2.grownBy wC none) := by rw [HWC.out]; exact fr_alloc _ _ _
  have HCA : Hid (wC.cell? ⟨w2.heap.size, 0, none⟩ = some (.map (some am))) := by
    rw [HWC.out]; exact cell_of (heap_alloc_new _ _) 0 _ rfl
  have b2 := (FrS.none (S := fun _ => False) HGC.out).cell b1 (fun h => h)
  have hsC : w2.heap.size < wC.heap.size := by rw [HWC.out]; simp
  have hfC := FrS.none (S := fun _ => False) (fr_both HG2.out HGC.out)
  have r0 := hfC.cell q0 (fun h => h)
  have r1 := hfC.cell q1 (fun h => h)
  have r2 := hfC.cell q2 (fun h => h)
  obtain ⟨wE, HWE⟩ : ∃ wE, Hid (wE = wC.alloc (.cells #[.pointer (some ⟨rb, 0, none⟩)] 129)) := ⟨_, rfl⟩
  have hwE := HWE.out.symm
  have HGE : Hid (wC.grownBy wE none) := by rw [HWE.out]; exact fr_alloc _ _ _
  have e3 : wE.cell? ⟨wC.heap.size, 0, none⟩ = some (.pointer (some ⟨rb, 0, none⟩)) := by
    rw [HWE.out]; exact cell_of (heap_alloc_new _ _) 0 _ rfl
  have hfE := FrS.none (S := fun _ => False) HGE.out
  have e0 := hfE.cell r0 (fun h => h)
  have e1 := hfE.cell r1 (fun h => h)
  have e2 := hfE.cell r2 (fun h => h)
  have HWE2 : Hid (w2.grownBy wE none) := fr_both HGC.out HGE.out
  have HWw : Hid (w.grownBy wE none) := fr_both HG2.out HWE2.out
  have HJE : Hid (Judge w2.heap.size wC.heap.size rb am name w1.heap.size g c (str name) u p.atom.place pb p.atom.args wE) :=
    ⟨hfE.cell HCA.out (fun h => h), e3, e0, HMA.out.kept HWE2.out (by simp), own_far HRA.out HWE2.out (by simp), (HP.out.args 0 p u rfl rfl).kept HWw.out (by cases u.ownBlock <;> simp), HV.out, hpl⟩
  have HSP : Hid (Spares w2.heap.size wC.heap.size vs wE) := by
    intro W hg x hx
    obtain ⟨j, hj⟩ := List.mem_iff_getElem?.1 hx
    have hjl : j < L.length := by rw [← hvl]; exact (List.getElem?_eq_some_iff.1 hj).1
    obtain ⟨xa, xc, hxe⟩ := own_form (HD.out.2.2 j x _ hj (List.getElem?_eq_getElem hjl))
    rw [hxe]
    exact store1_any _ _ rb am name w1.heap.size g c (str name) u p.atom.place pb p.atom.args W xa _ xc (HJE.out.grown hg) hname
  have HDE : Hid (∀ k, Calls Tryz.prog 57 #[.slice va m vc, .func (.func 58) #[] #[.pointer (some ⟨w2.heap.size, 0, none⟩), .pointer (some ⟨wC.heap.size, 0, none⟩)]] (wE.drewN k) fun e w' => e = .returned (.slice va m vc) ∧ (wE.drewN k).grownBy w' none) := by
    intro k
    have hd := fr_draws wE k none
    have := deleteRows_none b0 w2.heap.size wC.heap.size v vs (wE.drewN k) ((HD.out.1.kept HWw.out (by cases v.ownBlock <;> simp)).kept hd (by cases v.ownBlock <;> simp)) (fun W hg x hx => HSP.out W (fr_both hd hg) x hx) (by omega)
    rw [hve] at this
    exact this
  have hrz : ∀ W : World, wE.grownBy W none → W.frozen? ⟨rb, 2, none⟩ = false := by
    intro W hg
    obtain ⟨cur, hc⟩ := own_type ((own_far HR.out HWw.out (by simp))) (g := rb) rfl
    have h2 := (hg.block rb (Array.getElem?_eq_some_iff.1 hc).1 (by simp)).trans hc
    exact thaw_of h2 2
  have HRZ := hide hrz
  have HD2 : Hid (∀ W : World, (∃ k, W = wE.drewN k) → Calls Tryz.prog 57 #[.slice va m vc, .func (.func 58) #[] #[.pointer (some ⟨w2.heap.size, 0, none⟩), .pointer (some ⟨wC.heap.size, 0, none⟩)]] W fun e w' => e = .returned (.slice va m vc) ∧ Hid (wE.grownBy w' none) ∧ w'.cell? ⟨wC.heap.size, 0, none⟩ = some (.pointer (some ⟨rb, 0, none⟩)) ∧ w'.cell? ⟨rb, 2, none⟩ = some (.slice va m vc) ∧ w'.frozen? ⟨rb, 2, none⟩ = false ∧ w'.setCell ⟨rb, 2, none⟩ (.slice va m vc) = w') := by
    rintro W ⟨k, rfl⟩
    refine (HDE.out k).mono ?_
    rintro e w' ⟨rfl, hg⟩
    have hgg := fr_both (fr_draws wE k none) hg
    have hf := FrS.none (S := fun _ => False) hgg
    refine ⟨rfl, hgg, hf.cell e3 (fun h => h), hf.cell e2 (fun h => h), HRZ.out _ hgg, ?_⟩
    have hx := hf.cell e2 (fun h => h)
    obtain ⟨cur, hc⟩ := own_type ((own_far HR.out HWw.out (by simp))) (g := rb) rfl
    have h2 := (hgg.block rb (Array.getElem?_eq_some_iff.1 hc).1 (by simp)).trans hc
    refine setCell_same h2 ?_
    unfold World.cell? at hx
    simp only [h2] at hx
    exact hx
  have hrbl : rb < w.heap.size := World.block_lt_of_cell? _ _ q0
  have hrne : ¬ rb = wC.heap.size := by
    have := HG2.out.size
    omega
  clear hrz hfC r0 r1 r2 hfE
  go_wp2_with fail
  refine wp_loop_rounds 2 ?_
  rw [rounds_succ]
  go_wp2_with fail
  go_region_held3 (fun w' => w'.cell? ⟨wC.heap.size, 0, none⟩ = some (.pointer (some ⟨rb, 0, none⟩)) ∧ w'.cell? ⟨rb, 2, none⟩ = some (.slice va m vc)) (go_keep)
    (first | (go_at_call 57; refine (HD2.out _ ⟨_, rfl⟩).mono ?_; rintro e w5 ⟨rfl, HG5, k0, k1, k2, k3⟩))
  have HW5 : Hid (w2.grownBy w5 none) := fr_both HWE2.out HG5.out
  have HWw5 : Hid (w.grownBy w5 none) := fr_both HG2.out HW5.out
  have f5 := FrS.none (S := fun _ => False) HG5.out
  have t0 := f5.cell e0 (fun h => h)
  have t1 := f5.cell e1 (fun h => h)
  have t3 := k0
  have hblw : v.ownBlock = none ∨ ∃ gv, v.ownBlock = some gv ∧ gv < w.heap.size := by
    cases hv : v.ownBlock with
    | none => exact .inl rfl
    | some gv => exact .inr ⟨gv, rfl, (own_blk HD.out.1 hv).2⟩
  have HGV := hide (give_any wA.heap.size S nm rm b0 n name v vs L w5 _ _ (HT2.out.grown HW5.out) (HM2.out.kept HW5.out (by simp)) hnr hrl
    ⟨HD.out.1.kept HWw5.out (by cases v.ownBlock <;> simp), HD.out.2.1, fun i x r hx hr => (HD.out.2.2 i x r hx hr).kept HWw5.out (by cases x.ownBlock <;> simp)⟩
    (fun gv hv => by have := (own_blk HD.out.1 hv).2; omega)
    (fun x hx gv hv => by
      obtain ⟨j, hj⟩ := List.mem_iff_getElem?.1 hx
      have hjl : j < L.length := by rw [← hvl]; exact (List.getElem?_eq_some_iff.1 hj).1
      have := (own_blk (HD.out.2.2 j x _ hj (List.getElem?_eq_getElem hjl)) hv).2
      omega)
    HRW.out hn HND.out hL hname)
  rw [hve] at HGV
  have hSl : S < w1.heap.size := (Array.getElem?_eq_some_iff.1 HT1.out.blk).1
  have hnl : nm < w1.heap.size := HT1.out.num.lt
  have hrml : rm < w1.heap.size := HM1.out.lt
  have hS0 := HT1.out.lowS
  have hN0 := HT1.out.lowN
  have h5s : wE.heap.size ≤ w5.heap.size := HG5.out.size
  have hEs : wC.heap.size < wE.heap.size := by rw [HWE.out]; simp
  have HBX : Hid (w5.heap[wC.heap.size]? = some (.cells #[.pointer (some ⟨rb, 0, none⟩)] 129 (0, 0))) := by
    show _ = _
    rw [HG5.out.block _ hEs (by simp), HWE.out]
    exact heap_alloc_new _ _
  clear e0 e1 e2 e3 k0 k1 k2 k3 f5 hblw hwE hwC hwA
  go_wp2_with fail
  refine HGV.out.mono ?_
  rintro _ w6 ⟨rfl, ⟨R, ix, im, l, rows, vl, D, vr, vu, hgv, hRz, hXz, hIz⟩, hf6⟩
  have HG6 := hide hgv
  have HF6 := hide hf6
  have hnb : ¬ GvS wA.heap.size S nm rm w5 wC.heap.size := by
    rintro (e | e | e | ⟨_, cur, t, fz, e, ht⟩)
    · omega
    · omega
    · omega
    · rw [HBX.out] at e; injection e with e; injection e with _ e4
      rcases ht with ht | ht | ht <;> (rw [ht] at e4; cases e4)
  have hnr2 : ¬ GvS wA.heap.size S nm rm w5 rb := by
    rintro (e | e | e | ⟨e, _⟩) <;> omega
  have y3 := hf6.cell t3 hnb
  have y0 := hf6.cell t0 hnr2
  have y1 := hf6.cell t1 hnr2
  have hs6 : w5.heap.size ≤ w6.heap.size := hf6.size
  have hrl2 : rows.length ≤ 2000 := by
    have := congrArg List.length hgv.dec
    rw [List.length_map] at this
    omega
  have HRO : Hid (∀ W : World, (∃ k, W = w6.drewN k) → Calls Tryz.prog 63 #[.pointer (some ⟨S, 0, none⟩), .string (str name), .int .i64 (n : Nat)] W fun e w' => e = .returned (.pointer (some ⟨R, 0, none⟩)) ∧ w' = W) := by
    rintro W ⟨k, rfl⟩
    exact relation_old wA.heap.size S nm rm n l name R 1 _ vl D (HG6.out.tx.grown (fr_draws w6 k none)) (HG6.out.map.kept (fr_draws w6 k none) (by simp)) hname
  have HTU : Hid (∀ W : World, (∃ k, W = w6.drewN k) → Calls Tryz.prog 64 #[.pointer (some ⟨R, 0, none⟩)] W fun e w' => ∃ b, e = .returned (.bool b) ∧ Hid (RelX wA.heap.size R ix im n rows 0 rows.length w' vr vu) ∧ Hid (FrS (fun i => i = R) w6 w') ∧ w'.cell? ⟨wC.heap.size, 0, none⟩ = some (.pointer (some ⟨rb, 0, none⟩)) ∧ w'.cell? ⟨rb, 0, none⟩ = some (.string (str name)) ∧ w'.cell? ⟨rb, 1, none⟩ = some (.int .i64 (n : Nat))) := by
    rintro W ⟨k, rfl⟩
    refine (turn_any wA.heap.size R ix im n rows 0 _ vr vu (HG6.out.rel.grown (fr_draws w6 k none)) (by omega) (by omega)).mono ?_
    rintro e w' ⟨⟨b, rfl⟩, hrx, hf⟩
    have hff : FrS (fun i => i = R) w6 w' := FrS.trans (FrS.none (fr_draws w6 k none)) hf (fun i _ e => e)
    exact ⟨b, rfl, hrx, hff, hff.cell y3 (by show ¬ wC.heap.size = R; omega), hff.cell y0 (by show ¬ rb = R; omega), hff.cell y1 (by show ¬ rb = R; omega)⟩
  clear hgv hf6 hnb hnr2 t0 t1 t3
  generalize str name = sname at *
  go_wp2_with fail
  go_region_held3 (fun w' => w'.cell? ⟨wC.heap.size, 0, none⟩ = some (.pointer (some ⟨rb, 0, none⟩)) ∧ w'.cell? ⟨rb, 0, none⟩ = some (.string sname) ∧ w'.cell? ⟨rb, 1, none⟩ = some (.int .i64 (n : Nat))) (go_keep)
    (first | (go_at_call 63; refine (HRO.out _ ⟨_, rfl⟩).mono ?_; rintro e _ ⟨rfl, rfl⟩) | (go_at_call 64; refine (HTU.out _ ⟨_, rfl⟩).mono ?_; rintro e w7 ⟨b, rfl, HRX7, HF7, j0, j1, j2⟩))
  have HST : Hid (Stored wA.heap.size S nm rm R ix im n name l rows L w7 vl D vr vu) := by
    have hx := HG6.out
    refine ⟨hx.tx.kept HF7.out (by show ¬ S = R; omega) (by show ¬ nm = R; omega) (fun gq cur fz _ hg e => ?_), HRX7.out, HF7.out.map hx.map (by show ¬ rm = R; omega), hx.dec, hx.inT, hx.len, w5.heap.size, by omega, by omega, by omega, hRz, hXz, hIz⟩
    rw [show gq = R from e, hx.rel.blk] at hg
    injection hg with hg; injection hg with _ h3; cases h3
  have HGF : Hid (w.grownBy w7 none) := by
    refine fr_far (fr_far HWw5.out HF6.out (fun i hi e => ?_)) HF7.out (fun i hi e => ?_)
    · rcases e with e | e | e | ⟨e, _⟩ <;> omega
    · have e' : i = R := e
      have := HWw5.out.size
      omega
  clear j0 j1 j2 y0 y1 y3
  go_wp2
  rw [rounds_succ]
  go_wp2
  go_ret
  exact ⟨_, S, nm, rm, R, ix, im, l, rows, vl, D, vr, vu, rfl, by omega, HST.out, HGF.out⟩
end Go.Proofs.YtdfbjnachakkhaaGreatDoor
