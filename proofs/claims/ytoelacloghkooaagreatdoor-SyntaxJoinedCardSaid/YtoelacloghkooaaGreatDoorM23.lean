import Derived.Test.YtoelacloghkooaaGreatDoorM22
import Derived.Test.YtoelacloghkooaaGreatDoorM16
import Derived.Test.YtoelacloghkooaaGreatDoorM21
/-
  The program's printer: a part.
-/
namespace Go.Proofs.YtoelacloghkooaaGreatDoor
open Go.ChangeShapes Go.WideShapes Go.ChangeAt Go.RowKit
set_option linter.unusedVariables false
/-- the signs of comparisons, as they lie -/
def SignsAt (w : World) : Prop := w.cell? ⟨3, 2, none⟩ = some (.string { data := #[61] }) ∧ w.cell? ⟨3, 3, none⟩ = some (.string { data := #[33, 61] }) ∧ w.cell? ⟨3, 4, none⟩ = some (.string { data := #[60] })
theorem SignsAt.pf {B : Nat} {w w' : World} (h : SignsAt w) (hp : PF B w w') (hB : gTop ≤ B) : SignsAt w' := by
  have hlt : 3 < B := Nat.lt_of_lt_of_le (by decide) hB
  have hb := hp.below.block 3 hlt
  exact ⟨(World.cell?_of_block (a := ⟨3, 2, none⟩) hb).trans h.1, (World.cell?_of_block (a := ⟨3, 3, none⟩) hb).trans h.2.1, (World.cell?_of_block (a := ⟨3, 4, none⟩) hb).trans h.2.2⟩
set_option maxRecDepth 100000 in
set_option maxHeartbeats 4000000 in
theorem wpart_any (B b : Nat) (l : List UInt8) (p : PPart) (v : Value) (BT : Nat) (w : World) (h : PB B b l w) (hS : SignsAt w) (ho : w.ownsRow BT 44 3 v p.atom.args.length (termsV p.atom.args)) (hwf : WfP p) (hl : l.length ≤ 137438953472) (hBw : B ≤ w.heap.size) (hgB : gTop ≤ B) :
    Calls Tryz.prog 42 #[.pointer (some ⟨b, 0, none⟩), .agg (partV p v).toArray] w fun e w' => e = .returned (.tuple #[]) ∧ PB B b (l ++ partTextF p) w' ∧ PF B w w' := by
  have HPB := hide h
  have HO := hide ho
  have HS := hide hS
  obtain ⟨va, vc, hv⟩ := own_form ho
  clear h ho hS
  rcases hwf with ⟨hk, hwa, -, -⟩ | ⟨hk2, hk4, -, hlw, hrw⟩
  · have HWA := hide hwa
    have hk01 : p.kind = 0 ∨ p.kind = 1 := by omega
    have HTX : Hid (partTextF p = if p.kind = 0 then atomTextF p.atom else [110, 111, 116, 32] ++ atomTextF p.atom) := by
      show _ = _
      unfold partTextF
      rcases hk01 with h | h
      · rw [if_pos h, if_pos h]
      · rw [if_neg (by omega), if_pos h, if_neg (by omega)]
    have HAT : Hid (∀ (l' : List UInt8) (w' : World), PF B w w' → PB B b l' w' → l'.length ≤ 274877906944 → Calls Tryz.prog 39 #[.pointer (some ⟨b, 0, none⟩), .agg #[.string (str p.atom.name), v, .int .i64 (p.atom.place : Nat)]] w' fun e w'' => e = .returned (.tuple #[]) ∧ PB B b (l' ++ atomTextF p.atom) w'' ∧ PF B w' w'') := by
      intro l' w' hp hb hl'
      exact watom_any B b l' p.atom v BT w' hb (PF.own HO.out hp (by decide) (by decide)) HWA.out hl' (Nat.le_trans hBw hp.below.size)
    subst hv
    unfold partV
    clear hk hwa
    rcases hk01 with hk | hk
    · rw [if_pos hk] at HTX
      rw [hk]
      clear hk
      go_enter Tryz.func42, Tryz.ntmps42
      go_wp2_with fail
      generalize hw1 : World.alloc _ _ = w1
      have HG1 : Hid (w.grownBy w1 none) := by rw [← hw1]; exact fr_alloc _ _ _
      clear hw1
      refine (HAT.out l w1 (PF.fresh HG1.out hBw) (HPB.out.kept HG1.out) (by omega)).mono ?_
      rintro e w2 ⟨rfl, h2, hp2⟩
      have H2 := hide h2
      have HP2 := hide ((PF.fresh HG1.out hBw).trans hp2)
      clear h2 hp2
      go_wp2
      go_end0
      exact ⟨rfl, by rw [HTX.out]; exact H2.out, HP2.out⟩
    · rw [if_neg (by omega)] at HTX
      rw [hk]
      clear hk
      go_enter Tryz.func42, Tryz.ntmps42
      go_wp2_with fail
      generalize hw1 : World.alloc _ _ = w1
      have HG1 : Hid (w.grownBy w1 none) := by rw [← hw1]; exact fr_alloc _ _ _
      have HK1 : Hid (Kind w1 w.heap.size 46) := by rw [← hw1]; exact ⟨_, _, heap_alloc_new w _⟩
      have HC1 : Hid (w1.cell? ⟨w.heap.size, 1, none⟩ = some (.string (str p.atom.name)) ∧ w1.cell? ⟨w.heap.size, 2, none⟩ = some (.slice va p.atom.args.length vc) ∧ w1.cell? ⟨w.heap.size, 3, none⟩ = some (.int .i64 (p.atom.place : Nat))) := by rw [← hw1]; exact ⟨by simp, by simp, by simp⟩
      clear hw1
      refine (pwrite_any B b l (str [110, 111, 116, 32]) w1 (HPB.out.kept HG1.out) (by rw [str_size]; simp; omega) (Nat.le_trans hBw HG1.out.size)).mono ?_
      rintro e w2 ⟨rfl, h2, hp2⟩
      rw [data_str] at h2
      have H2 := hide h2
      have HP2 := hide ((PF.fresh HG1.out hBw).trans hp2)
      have d1 := hp2.cell HK1.out (by decide) (by decide) HC1.out.1
      have d2 := hp2.cell HK1.out (by decide) (by decide) HC1.out.2.1
      have d3 := hp2.cell HK1.out (by decide) (by decide) HC1.out.2.2
      clear h2 hp2
      go_wp2_with fail
      refine (HAT.out (l ++ [110, 111, 116, 32]) w2 HP2.out H2.out (by simp; omega)).mono ?_
      rintro e w3 ⟨rfl, h3, hp3⟩
      have H3 := hide h3
      have HP3 := hide (HP2.out.trans hp3)
      clear h3 hp3
      go_wp2
      go_end0
      exact ⟨rfl, by rw [HTX.out, ← List.append_assoc]; exact H3.out, HP3.out⟩
  · subst hv
    clear HO
    have HL := hide hlw
    have HR := hide hrw
    obtain ⟨K, HK⟩ : ∃ K : Nat, Hid (p.kind = K) := ⟨p.kind, hide rfl⟩
    have hK : K < 5 := by have := HK.out; omega
    have hK2 : 2 ≤ K := by have := HK.out; omega
    have e0 : ((K : Int) == 0) = false := by rw [beq_eq_false_iff_ne]; omega
    have e1 : ((K : Int) == 1) = false := by rw [beq_eq_false_iff_ne]; omega
    obtain ⟨S, HSS⟩ : ∃ S, Hid (str (signTextF p.kind) = S) := ⟨_, hide rfl⟩
    have hS : S.size ≤ 2 := by
      rw [← HSS.out, str_size]
      unfold signTextF; split <;> (try split) <;> simp
    have HSC : Hid (∀ w', SignsAt w' → w'.cell? ⟨3, K, none⟩ = some (.string S)) := by
      intro w' hc
      have : K = 2 ∨ K = 3 ∨ K = 4 := by omega
      rcases this with rfl | rfl | rfl
      · rw [← HSS.out, HK.out]; exact hc.1
      · rw [← HSS.out, HK.out]; exact hc.2.1
      · rw [← HSS.out, HK.out]; exact hc.2.2
    have HTX : Hid (partTextF p = termTextF p.left ++ ([32] ++ signTextF p.kind ++ [32]) ++ termTextF p.right) := by
      show _ = _
      unfold partTextF
      rw [if_neg (by omega), if_neg (by omega)]
      simp
    have HSD : Hid ((str [32] ++ S ++ str [32]).data.toList = [32] ++ signTextF p.kind ++ [32]) := by show _ = _; rw [← HSS.out, str_app, str_app, data_str]
    have HLL := hide (termText_len hlw)
    clear hlw hrw hk2 hk4
    unfold partV
    rw [HK.out]
    generalize p.atom.args.length = N
    generalize ((p.atom.place : Nat) : Int) = pl
    go_enter Tryz.func42, Tryz.ntmps42
    go_wp2_with fail
    generalize hw1 : World.alloc _ _ = w1
    have HG1 : Hid (w.grownBy w1 none) := by rw [← hw1]; exact fr_alloc _ _ _
    have HK1 : Hid (Kind w1 w.heap.size 46) := by rw [← hw1]; exact ⟨_, _, heap_alloc_new w _⟩
    have HC1 : Hid (w1.cell? ⟨w.heap.size, 0, none⟩ = some (.int .i64 (K : Nat)) ∧ w1.cell? ⟨w.heap.size, 7, none⟩ = some (.bool p.right.isVar) ∧ w1.cell? ⟨w.heap.size, 8, none⟩ = some (.string (str p.right.text)) ∧ w1.cell? ⟨w.heap.size, 9, none⟩ = some (.int .i64 (p.right.place : Nat))) := by rw [← hw1]; exact ⟨by simp, by simp, by simp, by simp⟩
    clear hw1
    have hB1 : B ≤ w1.heap.size := Nat.le_trans hBw HG1.out.size
    refine (wterm_any B b l p.left w1 (HPB.out.kept HG1.out) HL.out (by omega) hB1).mono ?_
    rintro e w2 ⟨rfl, h2, hp2⟩
    have H2 := hide h2
    have HP2 := hide hp2
    have HS2 := hide (HS.out.pf ((PF.fresh HG1.out hBw).trans hp2) hgB)
    have hB2 : B ≤ w2.heap.size := Nat.le_trans hB1 hp2.below.size
    have d0 := hp2.cell HK1.out (by decide) (by decide) HC1.out.1
    have dS := HSC.out _ HS2.out
    clear h2 hp2
    obtain ⟨Z, HZ⟩ : ∃ Z, Hid (str [32] ++ S ++ str [32] = Z) := ⟨_, hide rfl⟩
    have hZ : Z.size ≤ 4 := by rw [← HZ.out]; simp [str_size]; omega
    rw [HZ.out] at HSD
    have hll := HLL.out
    have HWR : Hid (∀ wx : World, (∃ n, wx = w2.drewN n) → Calls Tryz.prog 40 #[.pointer (some ⟨b, 0, none⟩), .string (({ data := #[32] } : ByteArray) ++ S ++ ({ data := #[32] } : ByteArray))] wx fun e w' => (∃ z : Int, e = .returned (.tuple #[.int .i64 z, .nilIface])) ∧ Hid (PB B b (l ++ termTextF p.left ++ ([32] ++ signTextF p.kind ++ [32])) w') ∧ Hid (PF B w1 w') ∧ w'.cell? ⟨w.heap.size, 0, none⟩ = some (.int .i64 (K : Nat)) ∧ w'.cell? ⟨3, K, none⟩ = some (.string S)) := by
      rintro wx ⟨n, rfl⟩
      have hz : (({ data := #[32] } : ByteArray) ++ S ++ ({ data := #[32] } : ByteArray)) = Z := HZ.out
      rw [hz]
      refine (pwrite_any B b (l ++ termTextF p.left) Z _ (H2.out.kept (fr_draws _ _ _)) (by rw [List.length_append]; omega) hB2).mono ?_
      rintro e w3 ⟨rfl, h3, hpf⟩
      rw [HSD.out] at h3
      have hp : PF B w1 w3 := HP2.out.trans ((PF.draws w2 n hB2).trans hpf)
      exact ⟨⟨_, rfl⟩, h3, hp, hp.cell HK1.out (by decide) (by decide) HC1.out.1, HSC.out _ (HS.out.pf ((PF.fresh HG1.out hBw).trans hp) hgB)⟩
    have i1 : (K : Int) < 5 := by omega
    have i2 : (0 : Int) ≤ (K : Int) := by omega
    have j1 : ¬ (9223372036854775807 < 1 + S.size) := by omega
    have j2 : ¬ (9223372036854775807 < 1 + S.size + 1) := by omega
    have j3 : ¬ (9223372036854775806 < 1 + S.size) := by omega
    go_wp2_with fail
    go_region_held3 (fun w' => w'.cell? ⟨w.heap.size, 0, none⟩ = some (.int .i64 (K : Nat)) ∧ w'.cell? ⟨3, K, none⟩ = some (.string S)) (go_keep) (first | (go_at_call 40; refine (HWR.out _ ⟨_, rfl⟩).mono ?_; rintro e w3 ⟨⟨z, rfl⟩, H3, HP3, k0, k1⟩))
    have hB3 : B ≤ w3.heap.size := Nat.le_trans hB1 HP3.out.below.size
    have d7 := HP3.out.cell HK1.out (by decide) (by decide) HC1.out.2.1
    have d8 := HP3.out.cell HK1.out (by decide) (by decide) HC1.out.2.2.1
    have d9 := HP3.out.cell HK1.out (by decide) (by decide) HC1.out.2.2.2
    have HSL : Hid ((signTextF p.kind).length ≤ 2) := hide (by unfold signTextF; split <;> (try split) <;> simp)
    clear d0 dS k0 k1 HWR
    go_wp2_with fail
    refine (wterm_any B b (l ++ termTextF p.left ++ ([32] ++ signTextF p.kind ++ [32])) p.right w3 H3.out HR.out (by have := HSL.out; simp only [List.length_append, List.length_cons, List.length_nil]; omega) hB3).mono ?_
    rintro e w4 ⟨rfl, h4, hp4⟩
    have H4 : Hid (PB B b (l ++ partTextF p) w4) := by rw [HTX.out, ← List.append_assoc, ← List.append_assoc]; exact h4
    have HP4 := hide (HP3.out.trans hp4)
    clear h4 hp4
    go_wp2
    go_end0
    exact ⟨rfl, H4.out, (PF.fresh HG1.out hBw).trans HP4.out⟩
end Go.Proofs.YtoelacloghkooaaGreatDoor

/-
  The law's own words on parts: 'sameParts', walked.
-/
namespace Go.Proofs.YtoelacloghkooaaGreatDoor
open Go.ChangeShapes Go.WideShapes Go.ChangeAt Go.RowKit
set_option linter.unusedVariables false
/-- the same part, with its places or without -/
structure SameP (pl : Bool) (p q : PPart) : Prop where
  kind : p.kind = q.kind
  atom : SameA pl p.atom q.atom
  left : SameT pl p.left q.left
  right : SameT pl p.right q.right
theorem SameP.refl (pl : Bool) (p : PPart) : SameP pl p p := ⟨rfl, SameA.refl pl _, SameT.refl pl _, SameT.refl pl _⟩
/-- the same parts -/
structure SamePs (pl : Bool) (ps qs : List PPart) : Prop where
  len : ps.length = qs.length
  parts : ∀ (i : Nat) (p q : PPart), ps[i]? = some p → qs[i]? = some q → SameP pl p q
theorem SamePs.refl (pl : Bool) (ps : List PPart) : SamePs pl ps ps := ⟨rfl, fun i p q h1 h2 => by rw [h1] at h2; cases h2; exact SameP.refl pl p⟩
theorem partsV_at : ∀ (ps : List PPart) (vs : List Value) (k j : Nat) (p : PPart) (v : Value), ps[k]? = some p → vs[k]? = some v → j < 10 → (partsV ps vs)[k * 10 + j]? = (partV p v)[j]? := by
  intro ps
  induction ps with
  | nil => intro vs k j p v h; simp at h
  | cons x ps ih =>
    intro vs k j p v h1 h2 hj
    cases vs with
    | nil => simp at h2
    | cons y vs =>
      cases k with
      | zero => simp at h1 h2; subst h1 h2; simp only [partsV, Nat.zero_mul, Nat.zero_add]; rw [List.getElem?_append_left (by simp [partV]; exact hj)]
      | succ k =>
        simp only [partsV]
        rw [List.getElem?_append_right (by simp [partV]; omega), ← ih vs k j p v (by simpa using h1) (by simpa using h2) hj]
        congr 1
        simp [partV]; omega
/-- a row of one's own may be written -/
theorem own_soft {w : World} {base : Nat} {e : TypeId} {size g n cap : Nat} {xs : List Value} (h : w.ownsRow base e size (.slice (some ⟨g, 0, none⟩) n cap) n xs) (j : Nat) : w.frozen? ⟨g, j, none⟩ = false := by
  rcases h.2 with ⟨hv, _⟩ | ⟨g', cap', cur, hv, hb, hg, hn, hc, hs, ht⟩
  · cases hv
  · cases hv
    unfold World.frozen?
    simp only [hg]
    simp
/-- where parts lie -/
theorem own_parts {tT tP : TypeId} {base : Nat} {w : World} {v : Value} {ps : List PPart} {vs : List Value} (h : PartsAt tT tP base w v ps vs) : (v = .slice none 0 0 ∧ ps = []) ∨ ∃ g cap, v = .slice (some ⟨g, 0, none⟩) ps.length cap ∧ base ≤ g ∧ g < w.heap.size ∧ (∀ k p u, ps[k]? = some p → vs[k]? = some u → ∀ (j : Nat) (x : Value), (partV p u)[j]? = some x → w.cell? ⟨g, k * 10 + j, none⟩ = some x) ∧ ∀ i, w.frozen? ⟨g, i, none⟩ = false := by
  rcases h.own.2 with ⟨rfl, h0⟩ | ⟨g, cap, cur, rfl, hb, hg, rest⟩
  · exact Or.inl ⟨rfl, List.eq_nil_of_length_eq_zero h0⟩
  · refine Or.inr ⟨g, cap, rfl, hb, (Array.getElem?_eq_some_iff.1 hg).1, fun k p u hp hu j x hx => ?_, fun i => own_soft h.own i⟩
    have hj : j < 10 := by
      rcases Nat.lt_or_ge j 10 with h | h
      · exact h
      · rw [List.getElem?_eq_none (by simp [partV]; omega)] at hx; cases hx
    have := h.own.cells rfl (k * 10 + j) x (by rw [partsV_at ps vs k j p u hp hu hj]; exact hx)
    rw [add_zero] at this; exact this
set_option maxRecDepth 100000 in
set_option maxHeartbeats 4000000 in
theorem sameParts_any (pl : Bool) (ps qs : List PPart) (va vb : Value) (us vs : List Value) (B1 B2 : Nat) (w : World) (h : SamePs pl ps qs) (ha : PartsAt 44 46 B1 w va ps us) (hb : PartsAt 101 103 B2 w vb qs vs) (hl : ps.length ≤ 1073741824) (hla : ∀ p ∈ ps, p.atom.args.length ≤ 1073741824) :
    Calls Tryz.prog 30 #[va, vb, .bool pl] w fun e w' => e = .returned (.bool true) ∧ w.grownBy w' none := by
  have HLA := hide hla
  have HPS := hide h.parts
  have HA := hide ha
  have HB := hide hb
  have hlen := h.len
  obtain ⟨aa, ca, hva⟩ := own_form ha.own
  obtain ⟨ab, cb, hvb⟩ := own_form hb.own
  subst hva hvb
  clear ha hb h hla
  rw [← hlen]
  have HNB : Hid (qs.length = ps.length) := hlen.symm
  rw [← hlen] at HB
  clear hlen
  go_enter Tryz.func30, Tryz.ntmps30
  go_wp2_with fail
  go_loopw [7] (fun iv wr => ∃ k : Nat, k ≤ ps.length ∧ iv = .int .i64 k ∧ Hid (w.grownBy wr none)) (fun iv _ => ps.length - (intOf iv).toNat)
  case atStart => exact ⟨0, by omega, rfl, fr_refl _ _⟩
  case round =>
    obtain ⟨k, hk, rfl, HH1⟩ := hrel
    by_cases hlt : k < ps.length
    · have hka : k < us.length := by have := HA.out.len; omega
      have hkq : k < qs.length := by have := HNB.out; omega
      have hkb : k < vs.length := by have := HB.out.len; omega
      have HT := hide (HPS.out k ps[k] qs[k] (List.getElem?_eq_getElem hlt) (List.getElem?_eq_getElem hkq))
      have HOA := hide (HA.out.args k ps[k] us[k] (List.getElem?_eq_getElem hlt) (List.getElem?_eq_getElem hka))
      have HOB := hide (HB.out.args k qs[k] vs[k] (List.getElem?_eq_getElem hkq) (List.getElem?_eq_getElem hkb))
      have hln := HLA.out _ (List.getElem_mem hlt)
      rcases own_parts HA.out with ⟨h0, h1⟩ | ⟨ga, ca', hva, -, -, hca, -⟩
      · rw [h1] at hlt; simp at hlt
      have hb' := HB.out
      rw [← HNB.out] at hb'
      rcases own_parts hb' with ⟨h0, h1⟩ | ⟨gb, cb', hvb, -, -, hcb, -⟩
      · rw [h1] at hkq; simp at hkq
      cases hva; cases hvb
      have HCA := hide (hca k ps[k] us[k] (List.getElem?_eq_getElem hlt) (List.getElem?_eq_getElem hka))
      have HCB := hide (hcb k qs[k] vs[k] (List.getElem?_eq_getElem hkq) (List.getElem?_eq_getElem hkb))
      clear hca hcb hb'
      obtain ⟨xa, xc, hxx⟩ := own_form HOA.out
      obtain ⟨ya, yc, hyy⟩ := own_form HOB.out
      rw [hxx] at HOA HCA
      rw [hyy] at HOB HCB
      clear hxx hyy
      obtain ⟨p, hp⟩ : ∃ p, p = ps[k] := ⟨_, rfl⟩
      obtain ⟨q, hq⟩ : ∃ q, q = qs[k] := ⟨_, rfl⟩
      rw [← hp] at HT HOA HCA hln
      rw [← hq] at HT HOB HCB
      clear hp hq hka hkq hkb
      have s10 := grown_cell HH1.out (HCA.out 1 _ rfl)
      have s11 := grown_cell HH1.out (HCA.out 2 _ rfl)
      have s12 := grown_cell HH1.out (HCA.out 3 _ rfl)
      have s13 := grown_cell HH1.out (HCB.out 1 _ rfl)
      have s14 := grown_cell HH1.out (HCB.out 2 _ rfl)
      have s15 := grown_cell HH1.out (HCB.out 3 _ rfl)
      have HC1 : Hid (∀ wx : World, (∃ n, wx = wr.drewN n) → Calls Tryz.prog 29 #[.agg #[.string (str p.atom.name), (.slice xa p.atom.args.length xc), .int .i64 (p.atom.place : Nat)], .agg #[.string (str q.atom.name), (.slice ya q.atom.args.length yc), .int .i64 (q.atom.place : Nat)], .bool pl] wx fun e w' => e = .returned (.bool true) ∧ Hid (wr.grownBy w' none) ∧ w'.cell? ⟨ga, k * 10 + 1, none⟩ = some (.string (str p.atom.name)) ∧ w'.cell? ⟨ga, k * 10 + 2, none⟩ = some (.slice xa p.atom.args.length xc) ∧ w'.cell? ⟨ga, k * 10 + 3, none⟩ = some (.int .i64 (p.atom.place : Nat)) ∧ w'.cell? ⟨gb, k * 10 + 1, none⟩ = some (.string (str q.atom.name)) ∧ w'.cell? ⟨gb, k * 10 + 2, none⟩ = some (.slice ya q.atom.args.length yc) ∧ w'.cell? ⟨gb, k * 10 + 3, none⟩ = some (.int .i64 (q.atom.place : Nat))) := by
        rintro wx ⟨n, rfl⟩
        refine (sameAtom_any pl p.atom q.atom _ _ B1 B2 _ HT.out.atom (own_far HOA.out (fr_both HH1.out (fr_draws wr n none)) (by simp)) (own_far HOB.out (fr_both HH1.out (fr_draws wr n none)) (by simp)) hln).mono ?_
        rintro e wz ⟨rfl, hg⟩
        have hg2 : wr.grownBy wz none := fr_both (fr_draws _ n _) hg
        exact ⟨rfl, hg2, grown_cell hg2 s10, grown_cell hg2 s11, grown_cell hg2 s12, grown_cell hg2 s13, grown_cell hg2 s14, grown_cell hg2 s15⟩
      go_wp2_with fail
      go_region_held3 (fun w' => w'.cell? ⟨ga, k * 10 + 1, none⟩ = some (.string (str p.atom.name)) ∧ w'.cell? ⟨ga, k * 10 + 2, none⟩ = some (.slice xa p.atom.args.length xc) ∧ w'.cell? ⟨ga, k * 10 + 3, none⟩ = some (.int .i64 (p.atom.place : Nat)) ∧ w'.cell? ⟨gb, k * 10 + 1, none⟩ = some (.string (str q.atom.name)) ∧ w'.cell? ⟨gb, k * 10 + 2, none⟩ = some (.slice ya q.atom.args.length yc) ∧ w'.cell? ⟨gb, k * 10 + 3, none⟩ = some (.int .i64 (q.atom.place : Nat))) (go_keep) (first | (go_at_call 29; refine (HC1.out _ ⟨_, rfl⟩).mono ?_; rintro e w2 ⟨rfl, HG2, k0, k1, k2, k3, k4, k5⟩))
      have HH2 : Hid (w.grownBy w2 none) := fr_both HH1.out HG2.out
      clear k0 k1 k2 k3 k4 k5 HC1 HG2 s10 s11 s12 s13 s14 s15
      have s20 := grown_cell HH2.out (HCA.out 4 _ rfl)
      have s21 := grown_cell HH2.out (HCA.out 5 _ rfl)
      have s22 := grown_cell HH2.out (HCA.out 6 _ rfl)
      have s23 := grown_cell HH2.out (HCB.out 4 _ rfl)
      have s24 := grown_cell HH2.out (HCB.out 5 _ rfl)
      have s25 := grown_cell HH2.out (HCB.out 6 _ rfl)
      have HC2 : Hid (∀ wx : World, (∃ n, wx = w2.drewN n) → Calls Tryz.prog 59 #[.agg #[.bool p.left.isVar, .string (str p.left.text), .int .i64 (p.left.place : Nat)], .agg #[.bool q.left.isVar, .string (str q.left.text), .int .i64 (q.left.place : Nat)], .bool pl] wx fun e w' => e = .returned (.bool true) ∧ Hid (w2.grownBy w' none) ∧ w'.cell? ⟨ga, k * 10 + 4, none⟩ = some (.bool p.left.isVar) ∧ w'.cell? ⟨ga, k * 10 + 5, none⟩ = some (.string (str p.left.text)) ∧ w'.cell? ⟨ga, k * 10 + 6, none⟩ = some (.int .i64 (p.left.place : Nat)) ∧ w'.cell? ⟨gb, k * 10 + 4, none⟩ = some (.bool q.left.isVar) ∧ w'.cell? ⟨gb, k * 10 + 5, none⟩ = some (.string (str q.left.text)) ∧ w'.cell? ⟨gb, k * 10 + 6, none⟩ = some (.int .i64 (q.left.place : Nat))) := by
        rintro wx ⟨n, rfl⟩
        refine (sameTerm_any pl p.left q.left _ HT.out.left).mono ?_
        rintro e wz ⟨rfl, hg⟩
        have hg2 : w2.grownBy wz none := fr_both (fr_draws _ n _) hg
        exact ⟨rfl, hg2, grown_cell hg2 s20, grown_cell hg2 s21, grown_cell hg2 s22, grown_cell hg2 s23, grown_cell hg2 s24, grown_cell hg2 s25⟩
      go_wp2_with fail
      go_region_held3 (fun w' => w'.cell? ⟨ga, k * 10 + 4, none⟩ = some (.bool p.left.isVar) ∧ w'.cell? ⟨ga, k * 10 + 5, none⟩ = some (.string (str p.left.text)) ∧ w'.cell? ⟨ga, k * 10 + 6, none⟩ = some (.int .i64 (p.left.place : Nat)) ∧ w'.cell? ⟨gb, k * 10 + 4, none⟩ = some (.bool q.left.isVar) ∧ w'.cell? ⟨gb, k * 10 + 5, none⟩ = some (.string (str q.left.text)) ∧ w'.cell? ⟨gb, k * 10 + 6, none⟩ = some (.int .i64 (q.left.place : Nat))) (go_keep) (first | (go_at_call 59; refine (HC2.out _ ⟨_, rfl⟩).mono ?_; rintro e w3 ⟨rfl, HG3, k0, k1, k2, k3, k4, k5⟩))
      have HH3 : Hid (w.grownBy w3 none) := fr_both HH2.out HG3.out
      clear k0 k1 k2 k3 k4 k5 HC2 HG3 s20 s21 s22 s23 s24 s25
      have s30 := grown_cell HH3.out (HCA.out 7 _ rfl)
      have s31 := grown_cell HH3.out (HCA.out 8 _ rfl)
      have s32 := grown_cell HH3.out (HCA.out 9 _ rfl)
      have s33 := grown_cell HH3.out (HCB.out 7 _ rfl)
      have s34 := grown_cell HH3.out (HCB.out 8 _ rfl)
      have s35 := grown_cell HH3.out (HCB.out 9 _ rfl)
      have HC3 : Hid (∀ wx : World, (∃ n, wx = w3.drewN n) → Calls Tryz.prog 59 #[.agg #[.bool p.right.isVar, .string (str p.right.text), .int .i64 (p.right.place : Nat)], .agg #[.bool q.right.isVar, .string (str q.right.text), .int .i64 (q.right.place : Nat)], .bool pl] wx fun e w' => e = .returned (.bool true) ∧ Hid (w3.grownBy w' none) ∧ w'.cell? ⟨ga, k * 10 + 7, none⟩ = some (.bool p.right.isVar) ∧ w'.cell? ⟨ga, k * 10 + 8, none⟩ = some (.string (str p.right.text)) ∧ w'.cell? ⟨ga, k * 10 + 9, none⟩ = some (.int .i64 (p.right.place : Nat)) ∧ w'.cell? ⟨gb, k * 10 + 7, none⟩ = some (.bool q.right.isVar) ∧ w'.cell? ⟨gb, k * 10 + 8, none⟩ = some (.string (str q.right.text)) ∧ w'.cell? ⟨gb, k * 10 + 9, none⟩ = some (.int .i64 (q.right.place : Nat))) := by
        rintro wx ⟨n, rfl⟩
        refine (sameTerm_any pl p.right q.right _ HT.out.right).mono ?_
        rintro e wz ⟨rfl, hg⟩
        have hg2 : w3.grownBy wz none := fr_both (fr_draws _ n _) hg
        exact ⟨rfl, hg2, grown_cell hg2 s30, grown_cell hg2 s31, grown_cell hg2 s32, grown_cell hg2 s33, grown_cell hg2 s34, grown_cell hg2 s35⟩
      go_wp2_with fail
      go_region_held3 (fun w' => w'.cell? ⟨ga, k * 10 + 7, none⟩ = some (.bool p.right.isVar) ∧ w'.cell? ⟨ga, k * 10 + 8, none⟩ = some (.string (str p.right.text)) ∧ w'.cell? ⟨ga, k * 10 + 9, none⟩ = some (.int .i64 (p.right.place : Nat)) ∧ w'.cell? ⟨gb, k * 10 + 7, none⟩ = some (.bool q.right.isVar) ∧ w'.cell? ⟨gb, k * 10 + 8, none⟩ = some (.string (str q.right.text)) ∧ w'.cell? ⟨gb, k * 10 + 9, none⟩ = some (.int .i64 (q.right.place : Nat))) (go_keep) (first | (go_at_call 59; refine (HC3.out _ ⟨_, rfl⟩).mono ?_; rintro e w4 ⟨rfl, HG4, k0, k1, k2, k3, k4, k5⟩))
      have HH4 : Hid (w.grownBy w4 none) := fr_both HH3.out HG4.out
      clear k0 k1 k2 k3 k4 k5 HC3 HG4 s30 s31 s32 s33 s34 s35
      have d0 := grown_cell HH4.out (HCA.out 0 _ rfl)
      have d1 := grown_cell HH4.out (HCB.out 0 _ rfl)
      rw [← HT.out.kind] at d1
      simp only [Nat.add_zero] at d0 d1
      go_wp2_with fail
      go_quiet (fail)
      go_wp2
      go_roundw
      case rel => exact ⟨k + 1, by omega, by go_num, fr_both HH4.out (fr_draws _ _ _)⟩
      case measure => simp [intOf]; omega
    · go_wp2
      go_ret
      exact ⟨rfl, HH1.out⟩
end Go.Proofs.YtoelacloghkooaaGreatDoor
