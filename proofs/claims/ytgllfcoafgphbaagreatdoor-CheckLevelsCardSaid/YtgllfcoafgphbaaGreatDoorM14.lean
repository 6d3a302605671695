import Derived.Test.YtgllfcoafgphbaaGreatDoorM13
import Derived.Maps.RangeWalk
/-
  The program's hangings.closed, hangings.hangs, walked.
-/
namespace Go.Proofs.YtgllfcoafgphbaaGreatDoor
open Go.ChangeShapes Go.WideShapes Go.ChangeAt Go.RowKit Go.Hands Go.WideMaps Go.Maps
set_option linter.unusedVariables false
theorem heldV_any (v : Value) (y : DataW Value × List MemPlace) (h : heldV v = some y) : ∃ c : Value, v = id c := ⟨v, rfl⟩
/-- as far as closed has come: the names that are done, each with all that it hangs on -/
structure Done (rs : List PRule) (w0 : Nat) (w : World) (n : Nat) (D : DataW Value) (H : List UInt8 → Bool) (S : List UInt8 → List (List UInt8)) (bf : List UInt8 → Nat) : Prop where
  hang : Hang w w0 n D H S bf
  all : ∀ k, H k = true → ∀ x, x ∈ S k ↔ Hangs rs k x
  none : ∀ k, H k = false → S k = []
  low : ∀ k, H k = true → w0 + 1 < bf k
set_option maxRecDepth 100000 in
set_option maxHeartbeats 4000000 in
theorem closed_any (rs : List PRule) (b nn : Nat) (D : DataW Value) (H : List UInt8 → Bool) (bf : List UInt8 → Nat) (w : World) (hB : (bodyNames rs).length ≤ 1000000) (hnm : ∀ x ∈ bodyNames rs, x.length ≤ 1000000) (hH : ∀ k, H k = false → under rs k = []) (hHn : ∀ k, H k = true → k.length ≤ 1000000) (hnn : nn ≤ 1000000) (hh : Hang w b nn D H (under rs) bf) :
    Calls Tryz.prog 64 #[.map (some b)] w fun e w' => e = .returned (.map (some w.heap.size)) ∧ (∃ (n2 : Nat) (D2 : DataW Value) (S2 : List UInt8 → List (List UInt8)) (bf2 : List UInt8 → Nat), Done rs w.heap.size w' n2 D2 H S2 bf2) ∧ Below w.heap.size w w' := by
  have hmm := @run_makeMap Tryz.prog
  have HNM := hide hnm
  have HHH := hide hH
  have HHN := hide hHn
  have HHG := hide hh
  have hbl := hh.lt
  have HSZ : Hid (Maps.size D ≤ nn) := hh.own.size_le
  obtain ⟨wa, HWA⟩ : ∃ wa, Hid (wa = w.alloc (.map #[] 0)) := ⟨_, rfl⟩
  have hwa := HWA.out.symm
  have HBA : Hid (Below w.heap.size w wa) := by rw [HWA.out]; exact (Below.refl _ _).alloc (Nat.le_refl _) _
  have hsa : wa.heap.size = w.heap.size + 1 := by rw [HWA.out]; simp
  have hhA : Hang wa b nn D H (under rs) bf := hh.at_ (HBA.out.block _ hbl) (fun k hk => HBA.out.block _ (hh.lts hk))
  have hownA := hhA.own
  have HDA : Hid (Done rs w.heap.size wa 0 (.map []) (fun k => H k && !Maps.has D (.string k)) (fun _ => []) (fun _ => 0)) := by
    have e : (fun k => H k && !Maps.has D (.string k)) = fun _ => false := by funext k; rw [hh.has]; cases H k <;> rfl
    rw [e]
    refine ⟨Hang.start _ _ ?_, fun k h => by simp at h, fun k h => rfl, fun k h => by simp at h⟩
    rw [HWA.out]; exact World.ownsMap_made _ _ _ _
  clear hnm hH hHn hh hhA HWA
  go_enter Tryz.func64, Tryz.ntmps64
  go_wp2_with (first
    | (at_range; refine wpList_range_own _ rfl _ 126 rfl 9 165 keyedS Tryz.underlying126 _ b nn _ rfl hownA ?_; intro w0 hrg0 hg0 hs0)
    | go_in)
  have HRG0 := hide hrg0
  have HB0 : Hid (Below w.heap.size w w0) := HBA.out.grown hg0 (by omega) (fun j hj => by cases hj)
  have HD0 : Hid (Done rs w.heap.size w0 0 (.map []) (fun k => H k && !Maps.has D (.string k)) (fun _ => []) (fun _ => 0)) :=
    ⟨HDA.out.hang.at_ (hg0.block _ HDA.out.hang.lt (by simp)) (fun k hk => hg0.block _ (HDA.out.hang.lts hk) (by simp)), HDA.out.all, HDA.out.none, HDA.out.low⟩
  clear hrg0 hg0 hs0 hownA hwa
  rw [hsa] at HRG0
  go_frame
  rw [hsa]
  go_loopw [4] (fun _ wr => ∃ (left : Lit → Bool) (cnt n2 : Nat) (D2 : DataW Value) (S2 : List UInt8 → List (List UInt8)) (bf2 : List UInt8 → Nat), Hid (wr.ranges Tryz.prog 9 heldV b (w.heap.size + 1) nn D left cnt) ∧ Hid (Done rs w.heap.size wr n2 D2 (fun k => H k && !left (.string k)) S2 bf2) ∧ n2 + cnt ≤ Maps.size D ∧ Hid (Below w.heap.size w wr)) (fun _ wr => wr.rangeLeft b (w.heap.size + 1))
  case atStart => exact ⟨_, _, 0, _, _, _, HRG0, HD0, by omega, HB0⟩
  case round =>
    obtain ⟨left, cnt, n2, D2, S2, bf2, HRG, HDN, hcn, HBW⟩ := hrel
    have hrg := HRG.out
    go_wp2_with (first
      | (at_next; refine wpList_next_ranges _ rfl _ rfl 9 keyedS heldV (fun l : List UInt8 => Value.string (str l)) (id : Value → Value) (fun key kl hk => by obtain ⟨x, hx, _⟩ := keyS_inv hk; exact ⟨x, hx⟩) heldV_any b (w.heap.size + 1) nn _ _ _ rfl hrg ?_ ?_)
      | go_in)
    · intro hc0 hl0
      go_wp2
      go_ret
      refine ⟨rfl, ⟨n2, D2, S2, bf2, ?_⟩, HBW.out⟩
      have e : (fun k => H k && !left (.string k)) = H := by funext k; rw [hl0]; simp
      exact e ▸ HDN.out
    · intro x c kl yd yp w1 cnt1 hkey hlk1 hv hat hrg1 hlt hg1 hs1 hen
      obtain ⟨x', ex, rfl⟩ := keyS_inv hkey
      obtain rfl : x = x' := str_inj.1 (by injection ex)
      have hHx : H x = true := by
        have h1 := has_true_of_atKey hat
        rw [HHG.out.has] at h1; exact h1
      have hxl := HHN.out x hHx
      have hkx := keyS x hxl
      have HB1 : Hid (Below w.heap.size w w1) := HBW.out.grown hg1 HBW.out.size (fun j hj => by have := Option.some.inj hj; omega)
      have hsw : w.heap.size + 1 < w1.heap.size := hrg1.lt
      have HD1 : Hid (Done rs w.heap.size w1 n2 D2 (fun k => H k && !left (.string k)) S2 bf2) :=
        ⟨HDN.out.hang.at_ (hg1.block _ HDN.out.hang.lt (fun e => by have := Option.some.inj e; omega)) (fun k hk => hg1.block _ (HDN.out.hang.lts hk) (fun e => by have := Option.some.inj e; have := HDN.out.low k hk; omega)), HDN.out.all, HDN.out.none, HDN.out.low⟩
      have hnd : (fun k => H k && !left (.string k)) x = false := by simp [hlk1]
      obtain ⟨sx, HSX⟩ : ∃ sx, Hid (sx = str x) := ⟨_, rfl⟩
      rw [← HSX.out] at hkx hen
      rw [← HSX.out]
      obtain ⟨wb, HWB⟩ : ∃ wb, Hid (wb = w1.alloc (.map #[] 0)) := ⟨_, rfl⟩
      have hwb := HWB.out.symm
      have HRB : Hid (Rnd (fun _ => False) w1 wb) := by rw [HWB.out]; exact (Rnd.refl _ _).alloc _
      have hsb : wb.heap.size = w1.heap.size + 1 := by rw [HWB.out]; simp
      have HRGb : Hid (wb.ranges Tryz.prog 9 heldV b (w.heap.size + 1) nn D (fun z => left z && !z.sameKey (.string x)) cnt1) := by rw [HWB.out]; exact hrg1.alloc _
      have HDb : Hid (Done rs w.heap.size wb n2 D2 (fun k => H k && !left (.string k)) S2 bf2) := ⟨HD1.out.hang.rnd HRB.out (fun h => h) (fun _ _ h => h), HD1.out.all, HD1.out.none, HD1.out.low⟩
      have hownb := HDb.out.hang.own
      have HEMP : Hid (wb.ownsMap (H := Unit) Tryz.prog 9 unitElem w1.heap.size 0 (.map [])) := by rw [HWB.out]; exact World.ownsMap_made _ _ _ _
      have hn2 : n2 ≤ 1000000 := by have := HSZ.out; omega
      clear hkey hat hv hrg1 hs1 hg1 hrg ex HWB
      go_wp2_with (first
        | (at_mapUpdate; refine wpList_mapUpdate_own _ rfl _ _ _ 126 rfl 9 165 keyedS Tryz.underlying126 _ w.heap.size n2 D2 rfl hownb (by unfold maxLen; omega) _ _ _ rfl rfl hkx _ [] (rfl : heldV (.map (some w1.heap.size)) = some (.held (.map (some w1.heap.size)), [])) ?_; intro w2 hown2 hg2; have HH2 : Hid (Hang w2 w.heap.size (n2 + 1) (D2.put (.string x) (.held (.map (some w1.heap.size)))) (fun k => (H k && !left (.string k)) || k == x) S2 (fun k => if k = x then w1.heap.size else bf2 k)) := HDb.out.hang.new hnd (HDb.out.none x hnd) (Rnd.grown hg2 (fun k e => (Option.some.inj e).symm)) hown2 (HEMP.out.kept hg2 (fun e => by have := Option.some.inj e; omega)) (by omega) (fun k hk e => by have := HD1.out.hang.lts hk; omega); have hlk2 := HH2.out.look (W := w2) rfl x hkx; rw [if_pos (by simp)] at hlk2; simp only [if_true] at hlk2)
        | fail)
      have HBb : Hid (Below w.heap.size w wb) := HB1.out.trans (HRB.out.below (Nat.le_trans HB1.out.size (Nat.le_refl _)) (fun _ h => h.elim))
      have HB2 : Hid (Below w.heap.size w w2) := HBb.out.grown hg2 HBb.out.size (fun j hj => by have := Option.some.inj hj; omega)
      have HHG2 : Hid (Hang w2 b nn D H (under rs) bf) := HHG.out.at_ (HB2.out.block _ hbl) (fun k hk => HB2.out.block _ (HHG.out.lts hk))
      have HF2 : Hid (Found rs w1.heap.size [] w2) := ⟨HEMP.out.kept hg2 (fun e => by have := Option.some.inj e; omega), List.nodup_nil, fun z hz => by simp at hz⟩
      have HRG2 : Hid (w2.ranges Tryz.prog 9 heldV b (w.heap.size + 1) nn D (fun z => left z && !z.sameKey (.string x)) cnt1) := HRGb.out.kept hg2 (fun e => by have := Option.some.inj e; omega) (fun e => by have := Option.some.inj e; omega)
      have HCA := hide (follow_any rs b nn D H bf w1.heap.size hB HNM.out HHH.out (by omega) (fun k hk e => by have := HHG.out.lts hk; omega) _ x [] w2 rfl HHG2.out hxl HF2.out)
      rw [← HSX.out] at HCA
      clear hown2 hg2 hownb hlk2
      refine HCA.out.mono ?_
      rintro e w3 ⟨rfl, ⟨l3, hf3, hfo3⟩, hr3⟩
      have HRG3 : Hid (w3.ranges Tryz.prog 9 heldV b (w.heap.size + 1) nn D (fun z => left z && !z.sameKey (.string x)) cnt1) :=
        HRG2.out.kept (row := some w1.heap.size) ⟨hr3.os, hr3.tape, hr3.output, hr3.size, fun i hi hne => hr3.block i hi (fun e => hne (by rw [e]))⟩ (fun e => by have := Option.some.inj e; omega) (fun e => by have := Option.some.inj e; omega)
      have HALL : Hid (∀ z, z ∈ l3 ↔ Hangs rs x z) := by
        have e1 : (fun z => z ∈ ([] : List (List UInt8))) = (fun _ => False) := by funext z; simp
        rw [e1] at hfo3
        exact fun z => hfo3.done z
      have HD3 : Hid (Done rs w.heap.size w3 (n2 + 1) (D2.put (.string x) (.held (.map (some w1.heap.size)))) (fun k => H k && !(left (.string k) && !(Lit.string k).sameKey (.string x))) (setS S2 x l3) (fun k => if k = x then w1.heap.size else bf2 k)) := by
        have e1 : (fun k => H k && !(left (.string k) && !(Lit.string k).sameKey (.string x))) = (fun k => (H k && !left (.string k)) || k == x) := by
          funext k
          by_cases e : k = x
          · subst e; simp [hHx, Lit.sameKey]
          · rw [sameKey_ne (fun e2 => e (by injection e2))]
            simp [e]
        rw [e1]
        have h3 : w3.ownsMap Tryz.prog 9 (unitElem (H := Unit)) ((fun k => if k = x then w1.heap.size else bf2 k) x) l3.length (setU l3) := by simpa using hf3.own
        have hr4 : Rnd (fun k => k = (fun k => if k = x then w1.heap.size else bf2 k) x) w2 w3 := by simpa using hr3
        refine ⟨HH2.out.set (k0 := x) (by simp) hr4 h3, fun k hk z => ?_, fun k hk => ?_, fun k hk => ?_⟩
        · by_cases e : k = x
          · subst e; rw [setS_same]; exact HALL.out z
          · rw [setS_other _ _ e]; exact HD1.out.all k (by simpa [e] using hk) z
        · have e : k ≠ x := fun e => by subst e; simp at hk
          rw [setS_other _ _ e]; exact HD1.out.none k (by simpa [e] using hk)
        · by_cases e : k = x
          · simp only [e, if_true]; omega
          · simp only [if_neg e]; exact HD1.out.low k (by simpa [e] using hk)
      have HB3 : Hid (Below w.heap.size w w3) := HB2.out.trans (hr3.below HB2.out.size (fun k hk => by have hk2 : k = w1.heap.size := hk; omega))
      clear hf3 hfo3 hr3
      go_wp2
      exact ⟨⟨_, cnt1, _, _, _, _, HRG3, HD3, by omega, HB3⟩, by rw [HRG3.out.left_eq, HRG.out.left_eq]; exact hlt⟩
set_option maxRecDepth 100000 in
set_option maxHeartbeats 1000000 in
theorem hangs_any (b nn : Nat) (D : DataW Value) (H : List UInt8 → Bool) (S : List UInt8 → List (List UInt8)) (bf : List UInt8 → Nat) (name other : List UInt8) (w : World) (hh : Hang w b nn D H S bf) (h1 : name.length ≤ 1000000) (h2 : other.length ≤ 1000000) :
    Calls Tryz.prog 68 #[.map (some b), .string (str name), .string (str other)] w fun e w' => e = .returned (.bool (H name && decide (other ∈ S name))) ∧ w' = w.alloc (.cells #[] 123) := by
  have hk1 := keyS name h1
  have hk2 := keyS other h2
  have hlk := hh.look (W := w) rfl name hk1
  obtain ⟨s1, HS1⟩ : ∃ s1, Hid (s1 = str name) := ⟨_, rfl⟩
  obtain ⟨s2, HS2⟩ : ∃ s2, Hid (s2 = str other) := ⟨_, rfl⟩
  rw [← HS1.out] at hlk
  rw [← HS2.out] at hk2
  rw [← HS1.out, ← HS2.out]
  by_cases hHn : H name = true
  · rw [if_pos hHn] at hlk
    have hset := hh.sets name hHn
    have hhas : Maps.has (setU (S name)) (.string other) = decide (other ∈ S name) := setU_has _ _
    rw [hHn, Bool.true_and]
    go_enter Tryz.func68, Tryz.ntmps68
    go_wp2_with (first
      | (at_lookup; refine wpList_lookup_own_unit _ rfl _ _ 165 rfl 9 123 keyedS Tryz.underlying165 (zeroU _) (bf name) (S name).length _ rfl hset _ _ rfl hk2 ?_; rw [hhas])
      | fail)
    go_ret
    exact ⟨rfl, rfl⟩
  · rw [if_neg hHn] at hlk
    have hln := Maps.look_nil (w := w) true keyedS Tryz.underlying165 (zeroU w) hk2
    rw [show H name = false by simpa using hHn, Bool.false_and]
    go_enter Tryz.func68, Tryz.ntmps68
    go_wp2
    go_ret
    exact ⟨rfl, rfl⟩
end Go.Proofs.YtgllfcoafgphbaaGreatDoor

/-
  The program's check.direct, walked.
-/
namespace Go.Proofs.YtgllfcoafgphbaaGreatDoor
open Go.ChangeShapes Go.WideShapes Go.ChangeAt Go.RowKit Go.Hands Go.WideMaps Go.Maps
set_option linter.unusedVariables false
attribute [local go_sem] Oper.semAt_some
/-- the marks are taken, and nothing else turns -/
theorem leaves_marksR {F : Fence} {n : Nat} {P : Program} {fn : Func} {tmps : Array Value} {R : Ending → World → Prop} : ∀ (Ds : List Nat) (W : World), Ds.Nodup → (∀ D ∈ Ds, W.heap[D]? = some (.deferred (some []))) →
    (∀ W', Rnd (fun k => k ∈ Ds) W W' → LeavesInM F n P fn tmps R [] .returning W') → LeavesInM F n P fn tmps R (Ds.map Go.Hands.mark) .returning W := by
  intro Ds
  induction Ds with
  | nil => intro W _ _ h; exact h W (Rnd.refl _ _)
  | cons D Ds ih =>
    intro W hnd hall h
    have hd := hall D (List.mem_cons_self ..)
    refine ⟨by simp, .inl ⟨D, _, rfl, run_takeDeferred hd, ?_⟩⟩
    refine ih _ (List.nodup_cons.1 hnd).2 (fun E hE => ?_) (fun W' hb => h W' (((Rnd.refl _ _).put (.inr (List.mem_cons_self ..))).trans (hb.mono (fun k hk => List.mem_cons_of_mem _ hk))))
    have hne : E ≠ D := fun e => (List.nodup_cons.1 hnd).1 (e ▸ hE)
    exact (World.putObj_heap_other hne).trans (hall E (List.mem_cons_of_mem _ hE))
theorem eqNil_some (b : Nat) (W : World) : (binOp BinOp.eql 165 (.map (some b)) (.map none)).run Tryz.prog W = .ok (.bool false) W := by kernel_rfl
theorem eqNil_none (W : World) : (binOp BinOp.eql 165 (.map none) (.map none)).run Tryz.prog W = .ok (.bool true) W := by kernel_rfl
theorem under_len (k : List UInt8) (c : Nat) : ∀ (rs : List PRule), (∀ r ∈ rs, r.body.length ≤ c) → (under rs k).length ≤ rs.length * c
  | [], _ => by simp [under]
  | r :: rs, h => by
    have ih := under_len k c rs (fun x hx => h x (List.mem_cons_of_mem _ hx))
    have h1 := h r (List.mem_cons_self ..)
    have h2 : (bodyAtoms r).length ≤ r.body.length := List.length_filter_le _ _
    unfold under at ih ⊢
    rw [List.filter_cons, List.length_cons, Nat.add_mul, Nat.one_mul]
    split
    · rw [List.flatMap_cons, List.length_append, List.length_map]; omega
    · omega
set_option maxRecDepth 100000 in
set_option maxHeartbeats 4000000 in
theorem direct_any (base : Nat) (v : Value) (rs : List PRule) (hs bs : List Value) (V : Nat → List Value) (w : World)
    (hrules : RulesAt 76 164 112 base w v rs hs bs)
    (hV : ∀ (i : Nat) (r : PRule) (u : Value), rs[i]? = some r → bs[i]? = some u → PartsAt 76 164 base w u r.body (V i))
    (hrl : rs.length ≤ 1000) (hr : ∀ r ∈ rs, r.body.length ≤ 1000000 ∧ r.head.name.length ≤ 1000000 ∧ ∀ p ∈ r.body, p.kind ≤ 1000 ∧ p.atom.name.length ≤ 1000000) :
    Calls Tryz.prog 63 #[v] w fun e w' => ∃ (nn : Nat) (D : DataW Value) (bf : List UInt8 → Nat), e = .returned (.map (some w.heap.size)) ∧ Hang w' w.heap.size nn D (headsX rs) (under rs) bf ∧ (∀ k, headsX rs k = true → w.heap.size ≤ bf k) ∧ Below w.heap.size w w' ∧ nn ≤ rs.length := by
  have hmm := @run_makeMap Tryz.prog
  have hvv := own_slice hrules.own
  obtain ⟨va, HVA⟩ : ∃ a, Hid (a = sliceA v) := ⟨_, rfl⟩
  obtain ⟨vc, HVC⟩ : ∃ c, Hid (c = sliceC v) := ⟨_, rfl⟩
  rw [← HVA.out, ← HVC.out] at hvv
  have HRL := hide hrules
  have HVV := hide hV
  have HR := hide hr
  clear hrules hV hr
  rw [hvv]
  obtain ⟨W2, HW2⟩ : ∃ W2, Hid (W2 = (w.alloc (.map #[] 0)).alloc (.cells #[.map (some w.heap.size)] 126)) := ⟨_, rfl⟩
  have HB2 : Hid (Below w.heap.size w W2) := by rw [HW2.out]; exact ((Below.refl _ _).alloc (Nat.le_refl _) _).alloc (by simp) _
  have HS2 : Hid (W2.heap.size = w.heap.size + 2) := by show _ = _; rw [HW2.out]; simp
  have m2 : W2.cell? ⟨w.heap.size + 1, 0, none⟩ = some (.map (some w.heap.size)) := by
    rw [HW2.out, World.cell?_alloc_at _ _ _ _ (by simp)]; rfl
  have HM2 : Hid (W2.ownsMap (H := Value) Tryz.prog 9 heldV w.heap.size 0 (.map [])) := by
    refine mapAtH (World.ownsMap_made w Tryz.prog 9 heldV) ?_
    rw [HW2.out]
    exact Below.heap_alloc _ _ _ (by simp)
  have HG2 : Hid (Hang W2 w.heap.size 0 (.map []) (headsX (rs.take 0)) (under (rs.take 0)) (fun _ => 0)) := by
    have e : headsX (rs.take 0) = fun _ => false := by funext k; simp [headsX]
    rw [e]; exact Hang.start _ _ HM2.out
  obtain ⟨n, hn1⟩ : ∃ n : Nat, 30 ≤ n := ⟨30, by omega⟩
  refine (callsIn_wide (n := n)).1 ?_
  refine callsIn_of_wp_marks Tryz.func63 rfl trivial ?_ rfl
  simp only [Tryz.ntmps63, List.size_toArray, List.length_cons, List.length_nil, Nat.reduceAdd, Nat.reduceSub, Array.replicate_succ, Array.replicate_zero, List.push_toArray, List.append_toArray, List.nil_append, List.cons_append]
  gi_wp2
  rw [show ((w.alloc (.map #[] 0)).alloc (.cells #[.map (some w.heap.size)] 126)) = W2 from HW2.out.symm]
  have HVL : Hid (∀ k, k < rs.length → ∃ g, va = some ⟨g, 0, none⟩ ∧ g < w.heap.size ∧ ∀ (r : PRule) (a b : Value), rs[k]? = some r → hs[k]? = some a → bs[k]? = some b → ∀ (j : Nat) (x : Value), (ruleV r a b)[j]? = some x → w.cell? ⟨g, k * 4 + j, none⟩ = some x) := by
    intro k hk
    rcases own_rules HRL.out with ⟨_, h0⟩ | ⟨g, cap, hvg, _, hgw, hc, _⟩
    · rw [h0] at hk; simp at hk
    · exact ⟨g, by rw [HVA.out, hvg]; rfl, hgw, fun r a b hr ha hb j x hx => hc k r a b hr ha hb j x hx⟩
  clear HVA HVC hvv
  refine wpIn_loop (fun a' w' => ∃ (k : Nat) (Ds : List Nat) (u5 u6 u7 u8 u13 u14 u15 u16 u17 u18 u19 u20 u21 u22 u23 u24 u25 u26 u27 u28 u29 u30 u31 u32 u33 u34 u35 u36 : Value) (nk : Nat) (Dk : DataW Value) (bf : List UInt8 → Nat), k ≤ rs.length ∧ Hid (Hang w' w.heap.size nk Dk (headsX (rs.take k)) (under (rs.take k)) bf) ∧ Hid (∀ q, headsX (rs.take k) q = true → w.heap.size + 2 ≤ bf q) ∧ nk ≤ k ∧ Hid (w'.cell? ⟨w.heap.size + 1, 0, none⟩ = some (.map (some w.heap.size))) ∧ Hid (Below w.heap.size w w') ∧ w.heap.size + 2 ≤ w'.heap.size ∧ Hid (Ds.Nodup) ∧ Hid (∀ D ∈ Ds, w.heap.size + 2 ≤ D ∧ w'.heap[D]? = some (.deferred (some []))) ∧ a' = { tmps := #[.slice va rs.length vc, undef, .map none, .pointer (some ⟨w.heap.size + 1, 0, none⟩), undef, u5, u6, u7, u8, .map (some w.heap.size), .slice va rs.length vc, .int .i64 (rs.length : Nat), .int .i64 ((k : Nat) : Int), u13, u14, u15, u16, u17, u18, u19, u20, u21, u22, u23, u24, u25, u26, u27, u28, u29, u30, u31, u32, u33, u34, u35, u36, undef], defers := Ds.map Go.Hands.mark })
    (fun a' _ => rs.length - (intOf (a'.tmps.getD 12 undef)).toNat) ?start ?round
  case start => exact ⟨0, [], _, _, _, _, _, _, _, _, _, _, _, _, _, _, _, _, _, _, _, _, _, _, _, _, _, _, _, _,  0, _, _, by omega, HG2, (fun q hq => by simp [headsX] at hq), by omega, m2, HB2, by have := HS2.out; omega, List.nodup_nil, (fun D hD => by simp at hD), rfl⟩
  case round =>
    rintro a' wr ⟨k, Ds, u5, u6, u7, u8, u13, u14, u15, u16, u17, u18, u19, u20, u21, u22, u23, u24, u25, u26, u27, u28, u29, u30, u31, u32, u33, u34, u35, u36, nk, Dk, bf, hk, HGK, HLK, hnk, HCK, HBW, hsz, HND, HDS, rfl⟩
    by_cases hlt : k < rs.length
    · have hlh : k < hs.length := by have := HRL.out.lh; omega
      have hlb : k < bs.length := by have := HRL.out.lb; omega
      obtain ⟨g0, rfl, hgw, hc⟩ := HVL.out k hlt
      have hrk : rs[k]? = some rs[k] := List.getElem?_eq_getElem hlt
      have hhk : hs[k]? = some hs[k] := List.getElem?_eq_getElem hlh
      have hbk : bs[k]? = some bs[k] := List.getElem?_eq_getElem hlb
      have hus := own_slice (HRL.out.heads k _ _ hrk hhk)
      have hpv := HVV.out k _ _ hrk hbk
      have hvs := own_slice hpv.own
      have hc2 := hc _ _ _ hrk hhk hbk
      obtain ⟨hrb, hrn, hrp⟩ := HR.out _ (List.getElem_mem hlt)
      have HHN : Hid (∀ q, headsX (rs.take (k + 1)) q = (headsX (rs.take k) q || q == rs[k].head.name)) := headsX_next rs k hlt
      have HUN : Hid (under (rs.take (k + 1)) = setS (under (rs.take k)) rs[k].head.name (under (rs.take k) rs[k].head.name ++ (bodyAtoms rs[k]).map (·.atom.name))) := under_next rs k hlt
      have HUL : Hid ((under (rs.take k) rs[k].head.name).length ≤ 1000 * 1000000) := by
        have h1 := under_len rs[k].head.name 1000000 (rs.take k) (fun r hr => (HR.out r (List.mem_of_mem_take hr)).1)
        have h2 : (rs.take k).length ≤ 1000 := by rw [List.length_take]; omega
        exact Nat.le_trans h1 (Nat.mul_le_mul_right _ h2)
      rw [hus, hvs] at hc2
      obtain ⟨r, HRK⟩ : ∃ r, Hid (r = rs[k]) := ⟨rs[k], (rfl : rs[k] = _)⟩
      rw [← HRK.out] at hc2 hpv hrb hrn hrp HHN HUN HUL
      obtain ⟨aa, HAA⟩ : ∃ aa, Hid (aa = sliceA hs[k]) := ⟨sliceA hs[k], (rfl : sliceA hs[k] = _)⟩
      obtain ⟨ac, HAC⟩ : ∃ ac, Hid (ac = sliceC hs[k]) := ⟨sliceC hs[k], (rfl : sliceC hs[k] = _)⟩
      obtain ⟨ba, HBA⟩ : ∃ ba, Hid (ba = sliceA bs[k]) := ⟨sliceA bs[k], (rfl : sliceA bs[k] = _)⟩
      obtain ⟨bc, HBC⟩ : ∃ bc, Hid (bc = sliceC bs[k]) := ⟨sliceC bs[k], (rfl : sliceC bs[k] = _)⟩
      have hbse : bs[k] = .slice ba r.body.length bc := by rw [HBA.out, HBC.out, HRK.out]; exact hvs
      rw [hbse] at hpv
      rw [← HAA.out, ← HAC.out, ← HBA.out, ← HBC.out] at hc2
      obtain ⟨hd, HHD⟩ : ∃ hd, Hid (hd = r.head.name) := ⟨r.head.name, (rfl : r.head.name = _)⟩
      obtain ⟨sh, HSH⟩ : ∃ sh, Hid (sh = str hd) := ⟨_, rfl⟩
      have hsh : str r.head.name = sh := by rw [HSH.out, HHD.out]
      have t0 := (HBW.out.cell (p := ⟨g0, k * 4 + 0, none⟩) hgw).trans (hc2 0 _ rfl)
      rw [Nat.add_zero, hsh] at t0
      have t1 := (HBW.out.cell (p := ⟨g0, k * 4 + 1, none⟩) hgw).trans (hc2 1 _ rfl)
      have t2 := (HBW.out.cell (p := ⟨g0, k * 4 + 2, none⟩) hgw).trans (hc2 2 _ rfl)
      have t3 := (HBW.out.cell (p := ⟨g0, k * 4 + 3, none⟩) hgw).trans (hc2 3 _ rfl)
      rw [← HHD.out] at hrn HHN HUN HUL
      have HPV := hide hpv
      have HRP := hide hrp
      have hkh : keyOf Tryz.prog 9 (.string sh) = some (.string hd) := by rw [HSH.out]; exact keyS hd hrn
      clear hc hc2 hus hvs hpv hrp hhk hbk hrk hsh hbse
      obtain ⟨wb, HWB⟩ : ∃ wb, Hid (wb = wr.alloc (.cells #[.string sh, .slice aa r.head.args.length ac, .int .i64 (r.head.place : Nat), .slice ba r.body.length bc] 112)) := ⟨_, rfl⟩
      have hwb := HWB.out.symm
      have HRB : Hid (Rnd (fun _ => False) wr wb) := by rw [HWB.out]; exact (Rnd.refl _ _).alloc _
      have b0 : wb.cell? ⟨wr.heap.size, 0, none⟩ = some (.string sh) := by rw [HWB.out, World.cell?_alloc_at _ _ _ _ rfl]; rfl
      have b1 : wb.cell? ⟨wr.heap.size, 1, none⟩ = some (.slice aa r.head.args.length ac) := by rw [HWB.out, World.cell?_alloc_at _ _ _ _ rfl]; rfl
      have b2 : wb.cell? ⟨wr.heap.size, 2, none⟩ = some (.int .i64 (r.head.place : Nat)) := by rw [HWB.out, World.cell?_alloc_at _ _ _ _ rfl]; rfl
      have b3 : wb.cell? ⟨wr.heap.size, 3, none⟩ = some (.slice ba r.body.length bc) := by rw [HWB.out, World.cell?_alloc_at _ _ _ _ rfl]; rfl
      have HSB : Hid (wb.heap.size = wr.heap.size + 1) := by show _ = _; rw [HWB.out]; simp
      obtain ⟨wc, HWC⟩ : ∃ wc, Hid (wc = wb.alloc (.cells #[.string sh] 9)) := ⟨_, rfl⟩
      have hwc := HWC.out.symm
      have HRC : Hid (Rnd (fun _ => False) wb wc) := by rw [HWC.out]; exact (Rnd.refl _ _).alloc _
      have d0 := HRC.out.cell b0 (fun h => h)
      have d1 := HRC.out.cell b1 (fun h => h)
      have d2 := HRC.out.cell b2 (fun h => h)
      have d3 := HRC.out.cell b3 (fun h => h)
      have dh : wc.cell? ⟨wb.heap.size, 0, none⟩ = some (.string sh) := by rw [HWC.out, World.cell?_alloc_at _ _ _ _ rfl]; rfl
      have HSC : Hid (wc.heap.size = wb.heap.size + 1) := by show _ = _; rw [HWC.out]; simp
      have HRWC : Hid (Rnd (fun _ => False) wr wc) := HRB.out.trans HRC.out
      have dm := HRWC.out.cell HCK.out (fun h => h)
      have HGC : Hid (Hang wc w.heap.size nk Dk (headsX (rs.take k)) (under (rs.take k)) bf) := HGK.out.rnd HRWC.out (fun h => h) (fun _ _ h => h)
      have hlk := HGC.out.look (W := wc) rfl hd hkh
      have hownc := HGC.out.own
      have HSZ2 : Hid (w.heap.size + 4 ≤ wc.heap.size) := by have := HSC.out; have := HSB.out; show _ ≤ _; omega
      clear HWB HWC
      cases hq : headsX (rs.take k) hd with
      | true =>
        rw [hq, if_pos rfl] at hlk
        obtain ⟨bh, HBH⟩ : ∃ bh, Hid (bh = bf hd) := ⟨_, rfl⟩
        rw [← HBH.out] at hlk
        have HHE : Hid (headsX (rs.take (k + 1)) = headsX (rs.take k)) := by
          funext q
          rw [HHN.out]
          by_cases e : q = hd
          · rw [e, hq]; rfl
          · simp [e]
        have hqn := eqNil_some bh wc
        gi_wp2_with fail
        obtain ⟨wx, HWX⟩ : ∃ wx, Hid (wx = wc) := ⟨_, rfl⟩
        rw [← HWX.out]
        have HGX : Hid (Hang wx w.heap.size nk Dk (headsX (rs.take (k + 1))) (under (rs.take k)) bf) := by rw [HHE.out, HWX.out]; exact HGC.out
        have HLX : Hid (∀ q, headsX (rs.take (k + 1)) q = true → w.heap.size + 2 ≤ bf q) := by rw [HHE.out]; exact HLK.out
        have HHX : Hid (wx.cell? ⟨wb.heap.size, 0, none⟩ = some (.string sh)) := by rw [HWX.out]; exact dh
        have HMX : Hid (wx.cell? ⟨w.heap.size + 1, 0, none⟩ = some (.map (some w.heap.size))) := by rw [HWX.out]; exact dm
        have HBX : Hid (Below w.heap.size w wx) := by rw [HWX.out]; exact HBW.out.trans (HRWC.out.below HBW.out.size (fun _ h => h.elim))
        have HSX : Hid (w.heap.size + 4 ≤ wx.heap.size) := by rw [HWX.out]; exact HSZ2.out
        have HDX : Hid (∀ D ∈ Ds, wx.heap[D]? = some (.deferred (some []))) := by
          intro D hD; rw [HWX.out]; exact (HRWC.out.block D (Array.getElem?_eq_some_iff.1 (HDS.out D hD).2).1 (fun h => h)).trans (HDS.out D hD).2
        obtain ⟨nx, HNXX⟩ : ∃ nx, Hid (nx = nk) := ⟨_, rfl⟩
        obtain ⟨Dx, HDXX⟩ : ∃ Dx, Hid (Dx = Dk) := ⟨_, rfl⟩
        obtain ⟨bx, HBXX⟩ : ∃ bx, Hid (bx = bf) := ⟨_, rfl⟩
        rw [← HNXX.out, ← HDXX.out, ← HBXX.out] at HGX
        rw [← HBXX.out] at HLX HBH
        have hnx : nx ≤ k + 1 := by rw [HNXX.out]; omega
        clear hqn HWX HNXX HDXX HBXX hlk hownc hwb hwc t0 t1 t2 t3 b0 b1 b2 b3 d0 d1 d2 d3 dh dm HGC HGK
        refine ⟨trivial, fun h => (by cases h), ?_⟩
        refine (callsIn_wide.2 (body_any sh aa r.head.args.length ac (r.head.place : Nat) ba r.body.length bc wx)).mono ?_
        rintro e W4 ⟨rfl, hW4⟩
        have HR4 : Hid (Rnd (fun _ => False) wx W4) := by rw [hW4]; exact (Rnd.refl _ _).alloc _
        have HS4 : Hid (W4.heap.size = wx.heap.size + 1) := by show _ = _; rw [hW4]; simp
        have b4 : W4.cell? ⟨wx.heap.size, 3, none⟩ = some (.slice ba r.body.length bc) := by rw [hW4, World.cell?_alloc_at _ _ _ _ rfl]; rfl
        have h4 := HR4.out.cell HHX.out (fun h => h)
        have m4 := HR4.out.cell HMX.out (fun h => h)
        have HG4 : Hid (Hang W4 w.heap.size nx Dx (headsX (rs.take (k + 1))) (under (rs.take k)) bx) := HGX.out.rnd HR4.out (fun h => h) (fun _ _ h => h)
        have HB4 : Hid (Below w.heap.size w W4) := HBX.out.trans (HR4.out.below (n := w.heap.size) (by have := HSX.out; omega) (fun _ h => h.elim))
        have HD4 : Hid (∀ D ∈ Ds, W4.heap[D]? = some (.deferred (some []))) := fun D hD => (HR4.out.block D (Array.getElem?_eq_some_iff.1 (HDX.out D hD)).1 (fun h => h)).trans (HDX.out D hD)
        have HDB : Hid (∀ D ∈ Ds, w.heap.size + 2 ≤ D ∧ D < W4.heap.size) := fun D hD => ⟨(HDS.out D hD).1, (Array.getElem?_eq_some_iff.1 (HD4.out D hD)).1⟩
        have HHT : Hid (headsX (rs.take (k + 1)) hd = true) := by show _ = _; rw [HHN.out]; simp
        have HS0 : Hid (W4.ownsMap Tryz.prog 9 (unitElem (H := Unit)) bh (under (rs.take k) hd).length (setU (under (rs.take k) hd))) := by rw [HBH.out]; exact HG4.out.sets hd HHT.out
        have hbh2 : w.heap.size + 2 ≤ bh := by rw [HBH.out]; exact HLX.out hd HHT.out
        have hbh3 : bh < W4.heap.size := HS0.out.lt
        have hbA : w.heap.size < W4.heap.size := HG4.out.lt
        have HNB : Hid (wb.heap.size ≠ bh) := fun e => by
          have h5 := h4
          unfold World.cell? at h5
          obtain ⟨es, clock, hb, _⟩ := HS0.out
          rw [← e] at hb
          simp [hb] at h5
        have HNX : Hid (wx.heap.size ≠ bh) := by rw [HBH.out]; have := HGX.out.lts HHT.out; show _ ≠ _; omega
        have HDN : Hid (∀ D ∈ Ds, D ≠ bh) := fun D hD e => by
          obtain ⟨es, clock, hb, _⟩ := HS0.out
          have := HD4.out D hD
          rw [e, hb] at this; cases this
        have HGP : Hid (∀ q, (Value.slice ba r.body.length bc).ownBlock = some q → ¬ (q = bh)) := by
          intro q hq hm
          have hq2 := own_lt HPV.out.own hq
          omega
        clear hW4 HHX HMX HDX
        gi_wp2
        refine range_hands rfl (by omega) (gf := 96) (lb := #[.pointer (some ⟨wx.heap.size, 0, none⟩)]) rfl trivial (enters_of Tryz.func96 (by kernel_rfl) rfl)
          (body_hands0 (n - 1) base wx.heap.size (.slice ba r.body.length bc) r.body (V k) (fun q => q = bh) w W4 ⟨HB4.out.os, HB4.out.tape, HB4.out.output, HB4.out.size, fun q hq _ => HB4.out.block q hq⟩ b4 HPV.out HGP.out (fun q hm e => HNX.out (e.symm.trans hm)) hrb (fun p hp => (HRP.out p hp).1))
          (Rnd.refl _ _) (fun q hm => by have hm2 : q = bh := hm; omega) (fun _ => False) (fun _ h => h.elim) (fun _ => rfl)
          (fun pre W' => Rnd (fun q => q = bh) W4 W' ∧ W'.ownsMap Tryz.prog 9 (unitElem (H := Unit)) bh (under (rs.take k) hd ++ pre.map (·.name)).length (setU (under (rs.take k) hd ++ pre.map (·.name))))
          (fun _ _ _ => False)
          (fun s A C h hb => ⟨low_rnd (β := Unit) (Nat.le_refl _) () A C h.1 hb, mapAt h.2 (hb.block _ hbh3)⟩)
          (fun c s A C h hb => h)
          ⟨Rnd.refl _ _, by simpa using HS0.out⟩
          (fun x a' W' => ∃ Bx, W'.cell? ⟨Bx, 0, none⟩ = some (.string (str x.name)) ∧ W'.cell? ⟨Bx, 1, none⟩ = some (.slice x.ua x.n x.uc) ∧ W'.cell? ⟨Bx, 2, none⟩ = some (.int .i64 (x.place : Nat)) ∧ a' = { tmps := #[.slice (some ⟨g0, 0, none⟩) rs.length vc, undef, .map none, .pointer (some ⟨w.heap.size + 1, 0, none⟩), undef, .pointer (some ⟨wr.heap.size, 0, none⟩), .pointer (some ⟨wb.heap.size, 0, none⟩), u7, .pointer (some ⟨Bx, 0, none⟩), .map (some w.heap.size), .slice (some ⟨g0, 0, none⟩) rs.length vc, .int .i64 (rs.length : Nat), .int .i64 (k : Nat), .bool true, .pointer (some ⟨g0, k * 4, none⟩), .agg #[.string sh, .slice aa r.head.args.length ac, .int .i64 (r.head.place : Nat), .slice ba r.body.length bc], .pointer (some ⟨wr.heap.size, 0, none⟩), .pointer (some ⟨wr.heap.size, 0, none⟩), .string sh, .map (some w.heap.size), .string sh, .map (some bh), .bool false, u23, u24, u25, .agg #[.string sh, .slice aa r.head.args.length ac, .int .i64 (r.head.place : Nat), .slice ba r.body.length bc], .func (.func 96) #[] #[.pointer (some ⟨wx.heap.size, 0, none⟩)], .int .i64 (x.kind : Nat), x.atomV, u30, u31, u32, u33, u34, u35, u36, undef], defers := [] })
          ?hAx ?assign ?body ?done ?stop
        case hAx =>
          rintro x a' W' l' r o hl' ⟨Bx, h0, h1, h2, rfl⟩
          exact ⟨Bx, cell_put_loop hl' h0, cell_put_loop hl' h1, cell_put_loop hl' h2, rfl⟩
        case assign =>
          rintro l' pre ⟨xk, xn, xl, xa, xc, xp, xts⟩ W' K hsz hi hK
          have HK := hide hK
          clear hK hi
          dsimp only [BX.atomV]
          gi_wp2
          refine HK.out _ _ ((Rnd.refl _ _).alloc _) ⟨W'.heap.size, ?_, ?_, ?_, rfl⟩ <;> (rw [World.cell?_alloc_at _ _ _ _ rfl]; rfl)
        case body =>
          rintro l' pre x a' W' hszw ⟨hr5, hown5⟩ ⟨Bx, h0, h1, h2, rfl⟩ hlen
          obtain ⟨i, p, u, hp, _, hkk, hxe⟩ := bodyX_mem (hlen.subset (List.mem_append_right _ (List.mem_singleton.2 rfl)))
          have hxl : x.name.length ≤ 1000000 := by rw [hxe]; exact (HRP.out p (List.mem_of_getElem? hp)).2
          have hpl : (pre.map (·.name)).length ≤ 1000000 := by
            have e1 := hlen.length_le
            have e2 : (bodyX r.body (V k)).length ≤ r.body.length := by
              unfold bodyX; rw [List.length_map]
              refine Nat.le_trans (List.length_filter_le _ _) ?_
              rw [List.length_zip]; omega
            simp at e1 ⊢; omega
          have hul := HUL.out
          have hkx := keyS x.name hxl
          obtain ⟨sx, HSXX⟩ : ∃ sx, Hid (sx = str x.name) := ⟨_, rfl⟩
          rw [← HSXX.out] at hkx h0
          have HR5 := hide hr5
          have mm := hr5.cell m4 (by show ¬ (w.heap.size + 1 = bh); omega)
          have hh5 := hr5.cell h4 HNB.out
          have hlk5 := HG4.out.look (W := W') (hr5.block _ hbA (by show ¬ (w.heap.size = bh); omega)) hd hkh
          rw [if_pos HHT.out, ← HBH.out] at hlk5
          have HPR : Hid (under (rs.take k) hd ++ (pre ++ [x]).map (·.name) = (under (rs.take k) hd ++ pre.map (·.name)) ++ [x.name]) := by show _ = _; simp
          clear hp hkk hxe hlen hr5
          gi_wp2_with (first
            | (gi_at_mapUpdate; refine wpListIn_mapUpdate_own _ rfl _ _ _ 165 rfl 9 123 keyedS Tryz.underlying165 _ bh _ _ rfl hown5 (by rw [List.length_append]; unfold maxLen; omega) _ _ _ rfl rfl hkx _ [] unitElem_mk ?_; intro w1 hown1 hgrow1)
            | fail)
          have r6 : Rnd (fun q => q = bh) W' w1 := Rnd.grown hgrow1 (fun q e => by cases e; rfl)
          refine ⟨r6, HR5.out.trans r6, ?_⟩
          rw [HPR.out, setU_snoc]
          refine hown1.mono ?_
          simp only [List.length_append, List.length_map, List.length_cons, List.length_nil]; omega
        case done =>
          rintro D5 xs W' hD5 rfl ⟨hr5, hown5⟩ hdd
          have HGN : Hid (Hang W' w.heap.size nx Dx (headsX (rs.take (k + 1))) (under (rs.take (k + 1))) bx) := by
            rw [HUN.out]
            have e1 : (bodyX r.body (V k)).map (·.name) = (bodyAtoms r).map (·.atom.name) := bodyX_names _ _ HPV.out.len
            rw [← e1]
            exact HG4.out.set HHT.out (by rw [← HBH.out]; exact hr5) (by rw [← HBH.out]; exact hown5)
          have HC5 : Hid (W'.cell? ⟨w.heap.size + 1, 0, none⟩ = some (.map (some w.heap.size))) := hr5.cell m4 (by show ¬ (w.heap.size + 1 = bh); omega)
          have HB5 : Hid (Below w.heap.size w W') := HB4.out.trans (hr5.below (n := w.heap.size) (by omega) (fun q hq => by have hq2 : q = bh := hq; omega))
          have hs5 : w.heap.size + 2 ≤ W'.heap.size := by have := hr5.size; omega
          have HND2 : Hid ((D5 :: Ds).Nodup) := List.nodup_cons.2 ⟨fun hin => by have := (HDB.out D5 hin).2; omega, HND.out⟩
          have HDD : Hid (∀ E ∈ D5 :: Ds, w.heap.size + 2 ≤ E ∧ W'.heap[E]? = some (.deferred (some []))) := fun E hE => by
            rcases List.mem_cons.1 hE with rfl | hE
            · exact ⟨by omega, hdd⟩
            · exact ⟨(HDB.out E hE).1, (hr5.block E (HDB.out E hE).2 (HDN.out E hE)).trans (HD4.out E hE)⟩
          clear hr5 hown5 hdd
          gi_wp2
          refine ⟨⟨k + 1, D5 :: Ds, _, _, _, _, _, _, _, _, _, _, _, _, _, _, _, _, _, _, _, _, _, _, _, _, _, _, _, _,  nx, Dx, bx, by omega, HGN, HLX, hnx, HC5, HB5, hs5, HND2, HDD, rfl⟩, ?_⟩
          simp [intOf]; omega
        case stop =>
          rintro D5 c pre W' hD5 hpre h hdd
          exact h.elim
      | false =>
        rw [hq, if_neg (by simp)] at hlk
        have HU0 : Hid (under (rs.take k) hd = []) := under_none hq
        obtain ⟨wd, HWD⟩ : ∃ wd, Hid (wd = wc.alloc (.map #[] 0)) := ⟨_, rfl⟩
        have hwd := HWD.out.symm
        have HRD : Hid (Rnd (fun _ => False) wc wd) := by rw [HWD.out]; exact (Rnd.refl _ _).alloc _
        have HSD : Hid (wd.heap.size = wc.heap.size + 1) := by show _ = _; rw [HWD.out]; simp
        have HGD : Hid (Hang wd w.heap.size nk Dk (headsX (rs.take k)) (under (rs.take k)) bf) := HGC.out.rnd HRD.out (fun h => h) (fun _ _ h => h)
        have HEMP : Hid (wd.ownsMap (H := Unit) Tryz.prog 9 unitElem wc.heap.size 0 (.map [])) := by rw [HWD.out]; exact World.ownsMap_made _ _ _ _
        have hownd := HGD.out.own
        have e0 := HRD.out.cell d0 (fun h => h)
        have e1 := HRD.out.cell d1 (fun h => h)
        have e2 := HRD.out.cell d2 (fun h => h)
        have e3 := HRD.out.cell d3 (fun h => h)
        have eh := HRD.out.cell dh (fun h => h)
        have em := HRD.out.cell dm (fun h => h)
        have hqn := eqNil_none wc
        gi_wp2_with (first
          | (gi_at_mapUpdate; refine wpListIn_mapUpdate_own _ rfl _ _ _ 126 rfl 9 165 keyedS Tryz.underlying126 _ w.heap.size nk Dk rfl hownd (by unfold maxLen; omega) _ _ _ rfl rfl hkh _ [] (rfl : heldV (.map (some wc.heap.size)) = some (.held (.map (some wc.heap.size)), [])) ?_; intro wx hownx hgx; have HRX : Hid (Rnd (fun q => q = w.heap.size) wd wx) := Rnd.grown hgx (fun q e => (Option.some.inj e).symm); have f0 := HRX.out.cell e0 (by show ¬ (wr.heap.size = w.heap.size); omega); have f1 := HRX.out.cell e1 (by show ¬ (wr.heap.size = w.heap.size); omega); have f2 := HRX.out.cell e2 (by show ¬ (wr.heap.size = w.heap.size); omega); have f3 := HRX.out.cell e3 (by show ¬ (wr.heap.size = w.heap.size); omega))
          | fail)
        have HHX : Hid (wx.cell? ⟨wb.heap.size, 0, none⟩ = some (.string sh)) := HRX.out.cell eh (by have := HSB.out; show ¬ (wb.heap.size = w.heap.size); omega)
        have HMX : Hid (wx.cell? ⟨w.heap.size + 1, 0, none⟩ = some (.map (some w.heap.size))) := HRX.out.cell em (by show ¬ (w.heap.size + 1 = w.heap.size); omega)
        have HSX : Hid (w.heap.size + 4 ≤ wx.heap.size) := by have := HRX.out.size; have := HSD.out; have := HSZ2.out; show _ ≤ _; omega
        have HBX : Hid (Below w.heap.size w wx) := (HBW.out.trans ((HRWC.out.trans HRD.out).below HBW.out.size (fun _ h => h.elim))).trans (HRX.out.below (by have := HSD.out; have := HSZ2.out; omega) (fun q hq => Nat.le_of_eq (Eq.symm hq)))
        have HDX : Hid (∀ D ∈ Ds, wx.heap[D]? = some (.deferred (some []))) := by
          intro D hD
          have h1 := ((HRWC.out.trans HRD.out).block D (Array.getElem?_eq_some_iff.1 (HDS.out D hD).2).1 (fun h => h)).trans (HDS.out D hD).2
          exact (HRX.out.block D (Array.getElem?_eq_some_iff.1 h1).1 (by have := (HDS.out D hD).1; show ¬ (D = w.heap.size); omega)).trans h1
        obtain ⟨bx, HBXE⟩ : ∃ bx, Hid (bx = fun q => if q = hd then wc.heap.size else bf q) := ⟨_, rfl⟩
        obtain ⟨bh, HBH⟩ : ∃ bh, Hid (bh = bx hd) := ⟨_, rfl⟩
        have HHE : Hid (headsX (rs.take (k + 1)) = fun q => headsX (rs.take k) q || q == hd) := funext HHN.out
        obtain ⟨Dx, HDXE⟩ : ∃ Dx, Hid (Dx = Dk.put (.string hd) (.held (.map (some wc.heap.size)))) := ⟨_, rfl⟩
        obtain ⟨nx, HNXE⟩ : ∃ nx, Hid (nx = nk + 1) := ⟨_, rfl⟩
        have HGX : Hid (Hang wx w.heap.size nx Dx (headsX (rs.take (k + 1))) (under (rs.take k)) bx) := by
          rw [HHE.out, HBXE.out, HDXE.out, HNXE.out]
          exact HGD.out.new hq HU0.out HRX.out hownx (HEMP.out.kept hgx (fun e => by have := Option.some.inj e; have := HSZ2.out; omega)) (by have := HSZ2.out; omega) (fun q hq e => by have := HGC.out.lts hq; omega)
        have HLX : Hid (∀ q, headsX (rs.take (k + 1)) q = true → w.heap.size + 2 ≤ bx q) := by
          intro q hq2
          rw [HBXE.out]
          by_cases e : q = hd
          · simp only [e, if_true]; have := HSZ2.out; omega
          · simp only [if_neg e]
            refine HLK.out q ?_
            rw [HHE.out] at hq2; simpa [e] using hq2
        have hnx : nx ≤ k + 1 := by rw [HNXE.out]; omega
        clear hqn hlk hownc hownd hownx hgx hwb hwc hwd t0 t1 t2 t3 b0 b1 b2 b3 d0 d1 d2 d3 dh dm e0 e1 e2 e3 eh em f0 f1 f2 f3 HGC HGK HBXE HDXE HNXE HWD HGD
        refine ⟨trivial, fun h => (by cases h), ?_⟩
        refine (callsIn_wide.2 (body_any sh aa r.head.args.length ac (r.head.place : Nat) ba r.body.length bc wx)).mono ?_
        rintro e W4 ⟨rfl, hW4⟩
        have HR4 : Hid (Rnd (fun _ => False) wx W4) := by rw [hW4]; exact (Rnd.refl _ _).alloc _
        have HS4 : Hid (W4.heap.size = wx.heap.size + 1) := by show _ = _; rw [hW4]; simp
        have b4 : W4.cell? ⟨wx.heap.size, 3, none⟩ = some (.slice ba r.body.length bc) := by rw [hW4, World.cell?_alloc_at _ _ _ _ rfl]; rfl
        have h4 := HR4.out.cell HHX.out (fun h => h)
        have m4 := HR4.out.cell HMX.out (fun h => h)
        have HG4 : Hid (Hang W4 w.heap.size nx Dx (headsX (rs.take (k + 1))) (under (rs.take k)) bx) := HGX.out.rnd HR4.out (fun h => h) (fun _ _ h => h)
        have HB4 : Hid (Below w.heap.size w W4) := HBX.out.trans (HR4.out.below (n := w.heap.size) (by have := HSX.out; omega) (fun _ h => h.elim))
        have HD4 : Hid (∀ D ∈ Ds, W4.heap[D]? = some (.deferred (some []))) := fun D hD => (HR4.out.block D (Array.getElem?_eq_some_iff.1 (HDX.out D hD)).1 (fun h => h)).trans (HDX.out D hD)
        have HDB : Hid (∀ D ∈ Ds, w.heap.size + 2 ≤ D ∧ D < W4.heap.size) := fun D hD => ⟨(HDS.out D hD).1, (Array.getElem?_eq_some_iff.1 (HD4.out D hD)).1⟩
        have HHT : Hid (headsX (rs.take (k + 1)) hd = true) := by show _ = _; rw [HHN.out]; simp
        have HS0 : Hid (W4.ownsMap Tryz.prog 9 (unitElem (H := Unit)) bh (under (rs.take k) hd).length (setU (under (rs.take k) hd))) := by rw [HBH.out]; exact HG4.out.sets hd HHT.out
        have hbh2 : w.heap.size + 2 ≤ bh := by rw [HBH.out]; exact HLX.out hd HHT.out
        have hbh3 : bh < W4.heap.size := HS0.out.lt
        have hbA : w.heap.size < W4.heap.size := HG4.out.lt
        have HNB : Hid (wb.heap.size ≠ bh) := fun e => by
          have h5 := h4
          unfold World.cell? at h5
          obtain ⟨es, clock, hb, _⟩ := HS0.out
          rw [← e] at hb
          simp [hb] at h5
        have HNX : Hid (wx.heap.size ≠ bh) := by rw [HBH.out]; have := HGX.out.lts HHT.out; show _ ≠ _; omega
        have HDN : Hid (∀ D ∈ Ds, D ≠ bh) := fun D hD e => by
          obtain ⟨es, clock, hb, _⟩ := HS0.out
          have := HD4.out D hD
          rw [e, hb] at this; cases this
        have HGP : Hid (∀ q, (Value.slice ba r.body.length bc).ownBlock = some q → ¬ (q = bh)) := by
          intro q hq hm
          have hq2 := own_lt HPV.out.own hq
          omega
        clear hW4 HHX HMX HDX
        gi_wp2
        refine range_hands rfl (by omega) (gf := 96) (lb := #[.pointer (some ⟨wx.heap.size, 0, none⟩)]) rfl trivial (enters_of Tryz.func96 (by kernel_rfl) rfl)
          (body_hands0 (n - 1) base wx.heap.size (.slice ba r.body.length bc) r.body (V k) (fun q => q = bh) w W4 ⟨HB4.out.os, HB4.out.tape, HB4.out.output, HB4.out.size, fun q hq _ => HB4.out.block q hq⟩ b4 HPV.out HGP.out (fun q hm e => HNX.out (e.symm.trans hm)) hrb (fun p hp => (HRP.out p hp).1))
          (Rnd.refl _ _) (fun q hm => by have hm2 : q = bh := hm; omega) (fun _ => False) (fun _ h => h.elim) (fun _ => rfl)
          (fun pre W' => Rnd (fun q => q = bh) W4 W' ∧ W'.ownsMap Tryz.prog 9 (unitElem (H := Unit)) bh (under (rs.take k) hd ++ pre.map (·.name)).length (setU (under (rs.take k) hd ++ pre.map (·.name))))
          (fun _ _ _ => False)
          (fun s A C h hb => ⟨low_rnd (β := Unit) (Nat.le_refl _) () A C h.1 hb, mapAt h.2 (hb.block _ hbh3)⟩)
          (fun c s A C h hb => h)
          ⟨Rnd.refl _ _, by simpa using HS0.out⟩
          (fun x a' W' => ∃ Bx, W'.cell? ⟨Bx, 0, none⟩ = some (.string (str x.name)) ∧ W'.cell? ⟨Bx, 1, none⟩ = some (.slice x.ua x.n x.uc) ∧ W'.cell? ⟨Bx, 2, none⟩ = some (.int .i64 (x.place : Nat)) ∧ a' = { tmps := #[.slice (some ⟨g0, 0, none⟩) rs.length vc, undef, .map none, .pointer (some ⟨w.heap.size + 1, 0, none⟩), undef, .pointer (some ⟨wr.heap.size, 0, none⟩), .pointer (some ⟨wb.heap.size, 0, none⟩), u7, .pointer (some ⟨Bx, 0, none⟩), .map (some w.heap.size), .slice (some ⟨g0, 0, none⟩) rs.length vc, .int .i64 (rs.length : Nat), .int .i64 (k : Nat), .bool true, .pointer (some ⟨g0, k * 4, none⟩), .agg #[.string sh, .slice aa r.head.args.length ac, .int .i64 (r.head.place : Nat), .slice ba r.body.length bc], .pointer (some ⟨wr.heap.size, 0, none⟩), .pointer (some ⟨wr.heap.size, 0, none⟩), .string sh, .map (some w.heap.size), .string sh, .map none, .bool true, .map (some w.heap.size), .string sh, .map (some wc.heap.size), .agg #[.string sh, .slice aa r.head.args.length ac, .int .i64 (r.head.place : Nat), .slice ba r.body.length bc], .func (.func 96) #[] #[.pointer (some ⟨wx.heap.size, 0, none⟩)], .int .i64 (x.kind : Nat), x.atomV, u30, u31, u32, u33, u34, u35, u36, undef], defers := [] })
          ?hAx ?assign ?body ?done ?stop
        case hAx =>
          rintro x a' W' l' r o hl' ⟨Bx, h0, h1, h2, rfl⟩
          exact ⟨Bx, cell_put_loop hl' h0, cell_put_loop hl' h1, cell_put_loop hl' h2, rfl⟩
        case assign =>
          rintro l' pre ⟨xk, xn, xl, xa, xc, xp, xts⟩ W' K hsz hi hK
          have HK := hide hK
          clear hK hi
          dsimp only [BX.atomV]
          gi_wp2
          refine HK.out _ _ ((Rnd.refl _ _).alloc _) ⟨W'.heap.size, ?_, ?_, ?_, rfl⟩ <;> (rw [World.cell?_alloc_at _ _ _ _ rfl]; rfl)
        case body =>
          rintro l' pre x a' W' hszw ⟨hr5, hown5⟩ ⟨Bx, h0, h1, h2, rfl⟩ hlen
          obtain ⟨i, p, u, hp, _, hkk, hxe⟩ := bodyX_mem (hlen.subset (List.mem_append_right _ (List.mem_singleton.2 rfl)))
          have hxl : x.name.length ≤ 1000000 := by rw [hxe]; exact (HRP.out p (List.mem_of_getElem? hp)).2
          have hpl : (pre.map (·.name)).length ≤ 1000000 := by
            have e1 := hlen.length_le
            have e2 : (bodyX r.body (V k)).length ≤ r.body.length := by
              unfold bodyX; rw [List.length_map]
              refine Nat.le_trans (List.length_filter_le _ _) ?_
              rw [List.length_zip]; omega
            simp at e1 ⊢; omega
          have hul := HUL.out
          have hkx := keyS x.name hxl
          obtain ⟨sx, HSXX⟩ : ∃ sx, Hid (sx = str x.name) := ⟨_, rfl⟩
          rw [← HSXX.out] at hkx h0
          have HR5 := hide hr5
          have mm := hr5.cell m4 (by show ¬ (w.heap.size + 1 = bh); omega)
          have hh5 := hr5.cell h4 HNB.out
          have hlk5 := HG4.out.look (W := W') (hr5.block _ hbA (by show ¬ (w.heap.size = bh); omega)) hd hkh
          rw [if_pos HHT.out, ← HBH.out] at hlk5
          have HPR : Hid (under (rs.take k) hd ++ (pre ++ [x]).map (·.name) = (under (rs.take k) hd ++ pre.map (·.name)) ++ [x.name]) := by show _ = _; simp
          clear hp hkk hxe hlen hr5
          gi_wp2_with (first
            | (gi_at_mapUpdate; refine wpListIn_mapUpdate_own _ rfl _ _ _ 165 rfl 9 123 keyedS Tryz.underlying165 _ bh _ _ rfl hown5 (by rw [List.length_append]; unfold maxLen; omega) _ _ _ rfl rfl hkx _ [] unitElem_mk ?_; intro w1 hown1 hgrow1)
            | fail)
          have r6 : Rnd (fun q => q = bh) W' w1 := Rnd.grown hgrow1 (fun q e => by cases e; rfl)
          refine ⟨r6, HR5.out.trans r6, ?_⟩
          rw [HPR.out, setU_snoc]
          refine hown1.mono ?_
          simp only [List.length_append, List.length_map, List.length_cons, List.length_nil]; omega
        case done =>
          rintro D5 xs W' hD5 rfl ⟨hr5, hown5⟩ hdd
          have HGN : Hid (Hang W' w.heap.size nx Dx (headsX (rs.take (k + 1))) (under (rs.take (k + 1))) bx) := by
            rw [HUN.out]
            have e1 : (bodyX r.body (V k)).map (·.name) = (bodyAtoms r).map (·.atom.name) := bodyX_names _ _ HPV.out.len
            rw [← e1]
            exact HG4.out.set HHT.out (by rw [← HBH.out]; exact hr5) (by rw [← HBH.out]; exact hown5)
          have HC5 : Hid (W'.cell? ⟨w.heap.size + 1, 0, none⟩ = some (.map (some w.heap.size))) := hr5.cell m4 (by show ¬ (w.heap.size + 1 = bh); omega)
          have HB5 : Hid (Below w.heap.size w W') := HB4.out.trans (hr5.below (n := w.heap.size) (by omega) (fun q hq => by have hq2 : q = bh := hq; omega))
          have hs5 : w.heap.size + 2 ≤ W'.heap.size := by have := hr5.size; omega
          have HND2 : Hid ((D5 :: Ds).Nodup) := List.nodup_cons.2 ⟨fun hin => by have := (HDB.out D5 hin).2; omega, HND.out⟩
          have HDD : Hid (∀ E ∈ D5 :: Ds, w.heap.size + 2 ≤ E ∧ W'.heap[E]? = some (.deferred (some []))) := fun E hE => by
            rcases List.mem_cons.1 hE with rfl | hE
            · exact ⟨by omega, hdd⟩
            · exact ⟨(HDB.out E hE).1, (hr5.block E (HDB.out E hE).2 (HDN.out E hE)).trans (HD4.out E hE)⟩
          clear hr5 hown5 hdd
          gi_wp2
          refine ⟨⟨k + 1, D5 :: Ds, _, _, _, _, _, _, _, _, _, _, _, _, _, _, _, _, _, _, _, _, _, _, _, _, _, _, _, _,  nx, Dx, bx, by omega, HGN, HLX, hnx, HC5, HB5, hs5, HND2, HDD, rfl⟩, ?_⟩
          simp [intOf]; omega
        case stop =>
          rintro D5 c pre W' hD5 hpre h hdd
          exact h.elim
    · obtain rfl : k = rs.length := by omega
      rw [List.take_length] at HGK HLK
      have kx := HCK.out
      gi_wp2
      refine leaves_marksR Ds wr HND.out (fun D hD => (HDS.out D hD).2) (fun W6 hr6 => ?_)
      have hA : ¬ (w.heap.size ∈ Ds) := fun h => by have := (HDS.out _ h).1; omega
      have hS : ∀ q, headsX rs q = true → ¬ (bf q ∈ Ds) := fun q hq h => by
        obtain ⟨es, clock, hb, _⟩ := HGK.out.sets q hq
        have := (HDS.out _ h).2
        rw [hb] at this; cases this
      exact ⟨_, results_tmp rfl _ _ _, nk, Dk, bf, rfl, HGK.out.rnd hr6 hA hS, fun q hq => by have := HLK.out q hq; omega, HBW.out.trans (hr6.below (by omega) (fun q hq => by have := (HDS.out q hq).1; omega)), hnk⟩
end Go.Proofs.YtgllfcoafgphbaaGreatDoor
