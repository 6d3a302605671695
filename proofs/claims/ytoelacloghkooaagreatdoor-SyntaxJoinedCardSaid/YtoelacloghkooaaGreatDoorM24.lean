import Derived.Test.YtoelacloghkooaaGreatDoorM23
import Derived.Test.YtoelacloghkooaaGreatDoorM02
/-
  The program's printer: parts with commas between.
-/
namespace Go.Proofs.YtoelacloghkooaaGreatDoor
open Go.ChangeShapes Go.WideShapes Go.ChangeAt Go.RowKit
set_option linter.unusedVariables false
theorem PartsAt.pf {B : Nat} {w w' : World} {base : Nat} {v : Value} {ps : List PPart} {us : List Value} (h : PartsAt 44 46 base w v ps us) (hp : PF B w w') : PartsAt 44 46 base w' v ps us :=
  ⟨PF.own h.own hp (by decide) (by decide), h.len, fun i p u h1 h2 => PF.own (h.args i p u h1 h2) hp (by decide) (by decide)⟩
set_option maxRecDepth 100000 in
set_option maxHeartbeats 4000000 in
theorem wlistP_any (B b : Nat) (l : List UInt8) (ts : List PPart) (v : Value) (us : List Value) (BT : Nat) (w : World) (h : PB B b l w) (hS : SignsAt w) (ho : PartsAt 44 46 BT w v ts us) (hwf : ∀ t ∈ ts, WfP t) (h8 : ts.length ≤ 12) (hl : l.length ≤ 68719476736) (hBw : B ≤ w.heap.size) (hgB : gTop ≤ B) :
    Calls Tryz.prog 41 #[.pointer (some ⟨b, 0, none⟩), v, .func (.func 42) #[.pointer (some ⟨b, 0, none⟩)] #[]] w fun e w' => e = .returned (.tuple #[]) ∧ PB B b (l ++ commaF partTextF ts) w' ∧ PF B w w' := by
  have hE : ∀ args w, (callFunc 42 args).run Tryz.prog w = .ok (.enter 42 args) w := enters_of Tryz.func42 (by kernel_rfl) rfl
  have HPB := hide h
  have HO := hide ho
  have HS := hide hS
  have HWF := hide hwf
  obtain ⟨va, vc, hv⟩ := own_form ho.own
  subst hv
  have HLN : Hid (∀ k, (l ++ commaF partTextF (ts.take k)).length ≤ 68719516736) := fun k => by
    rw [List.length_append]
    have := comma_take_len partTextF 3268 ts k (fun x hx => partText_len (HWF.out x hx))
    omega
  have HTK : Hid (∀ k (hk : k < ts.length), commaF partTextF (ts.take (k + 1)) = if k = 0 then partTextF ts[k] else commaF partTextF (ts.take k) ++ [44, 32] ++ partTextF ts[k]) := fun k hk => commaF_take partTextF ts k hk
  clear h ho hwf hS
  obtain ⟨N, HN⟩ : ∃ N, Hid (ts.length = N) := ⟨_, (rfl : _ = _)⟩
  rw [HN.out] at h8 ⊢
  go_enter Tryz.func41, Tryz.ntmps41
  go_wp2_with fail
  go_loopw [6, 7, 10] (fun iv tv xv wr => ∃ k : Nat, k ≤ N ∧ xv = .int .i64 k ∧ Hid (PB B b (l ++ commaF partTextF (ts.take k)) wr) ∧ Hid (PF B w wr)) (fun _ _ xv _ => N - (intOf xv).toNat)
  case atStart => exact ⟨0, by omega, rfl, hide (by have h := HPB.out; simpa [commaF] using h), PF.refl _ _⟩
  case round =>
    obtain ⟨k, hk, rfl, HP, HF⟩ := hrel
    by_cases hlt : k < N
    · have hkt : k < ts.length := by have := HN.out; omega
      have HWK := hide (HWF.out ts[k] (List.getElem_mem hkt))
      have hku : k < us.length := by have := HO.out.len; omega
      have hor := HO.out.pf HF.out
      rcases own_parts hor with ⟨h0, h1⟩ | ⟨ga, ca, hva, -, hga, hca, -⟩
      · rw [h1] at hkt; simp at hkt
      cases hva
      have HCA := hide (hca k ts[k] us[k] (List.getElem?_eq_getElem hkt) (List.getElem?_eq_getElem hku))
      have HOA := hide (HO.out.args k ts[k] us[k] (List.getElem?_eq_getElem hkt) (List.getElem?_eq_getElem hku))
      obtain ⟨ya, yc, hyy⟩ := own_form HOA.out
      rw [hyy] at HCA HOA
      clear hyy
      have HST := hide (HTK.out k hkt)
      have HL0 := hide (HLN.out k)
      have HL1 := hide (HLN.out (k + 1))
      clear hca hor hga
      generalize ts[k] = t at *
      have a0 := HCA.out 0 _ rfl
      have a1 := HCA.out 1 _ rfl
      have a2 := HCA.out 2 _ rfl
      have a3 := HCA.out 3 _ rfl
      have a4 := HCA.out 4 _ rfl
      have a5 := HCA.out 5 _ rfl
      have a6 := HCA.out 6 _ rfl
      have a7 := HCA.out 7 _ rfl
      have a8 := HCA.out 8 _ rfl
      have a9 := HCA.out 9 _ rfl
      simp only [Nat.add_zero] at a0
      by_cases h0 : k = 0
      · have e0 : decide (0 < k) = false := by simp [h0]
        rw [if_pos h0] at HST
        have HZ : Hid (l ++ commaF partTextF (ts.take k) = l) := by show _ = _; rw [h0]; simp [commaF]
        rw [HZ.out] at HP HL0
        have hL0 := HL0.out
        clear h0 HL0
        go_wp2_with fail
        generalize hw1 : World.alloc _ _ = w1
        have HG1 : Hid (wr.grownBy w1 none) := by rw [← hw1]; exact fr_alloc _ _ _
        clear hw1
        have hBr : B ≤ wr.heap.size := Nat.le_trans hBw HF.out.below.size
        have hf1 := HF.out.trans (PF.fresh HG1.out hBr)
        refine (wpart_any B b l t _ BT w1 (HP.out.kept HG1.out) (HS.out.pf hf1 hgB) (PF.own HOA.out hf1 (by decide) (by decide)) HWK.out (by omega) (Nat.le_trans hBr HG1.out.size) hgB).mono ?_
        rintro e w2 ⟨rfl, h2, hp2⟩
        have H2 : Hid (PB B b (l ++ commaF partTextF (ts.take (k + 1))) w2) := by rw [HST.out]; exact h2
        have HP2 := hide (HF.out.trans ((PF.fresh HG1.out hBr).trans hp2))
        clear h2 hp2 hf1
        go_wp2
        go_roundw
        case rel => exact ⟨k + 1, by omega, by go_num, H2, HP2⟩
        case measure => simp [intOf]; omega
      · have hpos : 0 < k := by omega
        rw [if_neg h0] at HST
        clear h0
        go_wp2_with fail
        generalize hw1 : World.alloc _ _ = w1
        have HG1 : Hid (wr.grownBy w1 none) := by rw [← hw1]; exact fr_alloc _ _ _
        have HK1 : Hid (Kind w1 wr.heap.size 46) := by rw [← hw1]; exact ⟨_, _, heap_alloc_new wr _⟩
        have HC1 : Hid (w1.cell? ⟨wr.heap.size, 0, none⟩ = some (.int .i64 (t.kind : Nat)) ∧ w1.cell? ⟨wr.heap.size, 1, none⟩ = some (.string (str t.atom.name)) ∧ w1.cell? ⟨wr.heap.size, 2, none⟩ = some (.slice ya t.atom.args.length yc) ∧ w1.cell? ⟨wr.heap.size, 3, none⟩ = some (.int .i64 (t.atom.place : Nat)) ∧ w1.cell? ⟨wr.heap.size, 4, none⟩ = some (.bool t.left.isVar) ∧ w1.cell? ⟨wr.heap.size, 5, none⟩ = some (.string (str t.left.text)) ∧ w1.cell? ⟨wr.heap.size, 6, none⟩ = some (.int .i64 (t.left.place : Nat)) ∧ w1.cell? ⟨wr.heap.size, 7, none⟩ = some (.bool t.right.isVar) ∧ w1.cell? ⟨wr.heap.size, 8, none⟩ = some (.string (str t.right.text)) ∧ w1.cell? ⟨wr.heap.size, 9, none⟩ = some (.int .i64 (t.right.place : Nat))) := by rw [← hw1]; exact ⟨by simp, by simp, by simp, by simp, by simp, by simp, by simp, by simp, by simp, by simp⟩
        clear hw1
        have hBr : B ≤ wr.heap.size := Nat.le_trans hBw HF.out.below.size
        have hL0 := HL0.out
        obtain ⟨lk, HLK⟩ : ∃ lk, Hid (l ++ commaF partTextF (ts.take k) = lk) := ⟨_, (rfl : _ = _)⟩
        rw [HLK.out] at HP hL0
        refine (pwrite_any B b lk (str [44, 32]) w1 (HP.out.kept HG1.out) (by rw [str_size]; simp; omega) (Nat.le_trans hBr HG1.out.size)).mono ?_
        rintro e w2 ⟨rfl, h2, hp2⟩
        rw [data_str] at h2
        have hkb := hp2.keep wr.heap.size _ HK1.out (by decide) (by decide)
        have d0 := (World.cell?_of_block (a := ⟨wr.heap.size, 0, none⟩) hkb).trans HC1.out.1
        have d1 := (World.cell?_of_block (a := ⟨wr.heap.size, 1, none⟩) hkb).trans HC1.out.2.1
        have d2 := (World.cell?_of_block (a := ⟨wr.heap.size, 2, none⟩) hkb).trans HC1.out.2.2.1
        have d3 := (World.cell?_of_block (a := ⟨wr.heap.size, 3, none⟩) hkb).trans HC1.out.2.2.2.1
        have d4 := (World.cell?_of_block (a := ⟨wr.heap.size, 4, none⟩) hkb).trans HC1.out.2.2.2.2.1
        have d5 := (World.cell?_of_block (a := ⟨wr.heap.size, 5, none⟩) hkb).trans HC1.out.2.2.2.2.2.1
        have d6 := (World.cell?_of_block (a := ⟨wr.heap.size, 6, none⟩) hkb).trans HC1.out.2.2.2.2.2.2.1
        have d7 := (World.cell?_of_block (a := ⟨wr.heap.size, 7, none⟩) hkb).trans HC1.out.2.2.2.2.2.2.2.1
        have d8 := (World.cell?_of_block (a := ⟨wr.heap.size, 8, none⟩) hkb).trans HC1.out.2.2.2.2.2.2.2.2.1
        have d9 := (World.cell?_of_block (a := ⟨wr.heap.size, 9, none⟩) hkb).trans HC1.out.2.2.2.2.2.2.2.2.2
        have H2 := hide h2
        have HP2 := hide ((PF.fresh HG1.out hBr).trans hp2)
        have hB2 : B ≤ w2.heap.size := Nat.le_trans hBr HP2.out.below.size
        generalize wr.heap.size = W at *
        clear h2 hp2 hkb
        go_wp2_with fail
        have hf2 := HF.out.trans HP2.out
        refine (wpart_any B b (lk ++ [44, 32]) t _ BT w2 H2.out (HS.out.pf hf2 hgB) (PF.own HOA.out hf2 (by decide) (by decide)) HWK.out (by simp; omega) hB2 hgB).mono ?_
        rintro e w3 ⟨rfl, h3, hp3⟩
        have H3 : Hid (PB B b (l ++ commaF partTextF (ts.take (k + 1))) w3) := by rw [HST.out, ← List.append_assoc, ← List.append_assoc, HLK.out]; exact h3
        have HP3 := hide (HF.out.trans (HP2.out.trans hp3))
        clear h3 hp3 hf2 d0 d1 d2 d3 d4 d5 d6 d7 d8 d9
        go_wp2
        go_roundw
        case rel => exact ⟨k + 1, by omega, by go_num, H3, HP3⟩
        case measure => simp [intOf]; omega
    · have hkN : k = N := by omega
      have HE : Hid (ts.take k = ts) := by show _ = _; rw [List.take_of_length_le (by have := HN.out; omega)]
      go_wp2
      go_end0
      exact ⟨rfl, by have h := HP.out; rw [HE.out] at h; exact h, HF.out⟩
end Go.Proofs.YtoelacloghkooaaGreatDoor

/-
  Rows that are written over: what stays.
-/
namespace Go.Proofs.YtoelacloghkooaaGreatDoor
open Go.ChangeShapes Go.WideShapes Go.ChangeAt Go.RowKit
set_option linter.unusedVariables false
/-- what lies below and what lies above stays -/
structure Mid (base top : Nat) (w w' : World) : Prop where
  os : w'.os = w.os
  tape : w'.tape = w.tape
  output : w'.output = w.output
  size : w'.heap.size = w.heap.size
  block : ∀ k, k < base ∨ top ≤ k → w'.heap[k]? = w.heap[k]?
theorem Mid.refl (base top : Nat) (w : World) : Mid base top w w := ⟨rfl, rfl, rfl, rfl, fun _ _ => rfl⟩
theorem set_size (w : World) (a : Addr) (u : Value) : (w.setCell a u).heap.size = w.heap.size := by simp [World.setCell]
theorem Mid.set {base top : Nat} {w w' : World} (h : Mid base top w w') {b : Nat} (hb : base ≤ b) (ht : b < top) (j : Nat) (u : Value) : Mid base top w (w'.setCell ⟨b, j, none⟩ u) :=
  ⟨h.os, h.tape, h.output, by rw [set_size]; exact h.size, fun k hk => by rw [Below.heap_setCell _ _ _ _ (by show k ≠ b; omega)]; exact h.block k hk⟩
theorem Mid.below {base top : Nat} {W w w' : World} (h : Mid base top w w') (hb : Below base W w) : Below base W w' :=
  ⟨h.os.trans hb.os, h.tape.trans hb.tape, h.output.trans hb.output, by rw [h.size]; exact hb.size, fun k hk => (h.block k (Or.inl hk)).trans (hb.block k hk)⟩
theorem own_mid {base top : Nat} {w w' : World} {e : TypeId} {s n : Nat} {v : Value} {xs : List Value} (h : w.ownsRow top e s v n xs) (hm : Mid base top w w') : w'.ownsRow top e s v n xs := by
  refine ⟨h.1, ?_⟩
  rcases h.2 with h2 | ⟨g, cap, cur, hv, hbg, hg, rest⟩
  · exact Or.inl h2
  · exact Or.inr ⟨g, cap, cur, hv, hbg, by rw [hm.block g (Or.inr hbg)]; exact hg, rest⟩
theorem PartsAt.mid {tT tP : TypeId} {base top : Nat} {w w' : World} {v : Value} {ps : List PPart} {vs : List Value} (h : PartsAt tT tP top w v ps vs) (hm : Mid base top w w') : PartsAt tT tP top w' v ps vs :=
  ⟨own_mid h.own hm, h.len, fun i p u hp hu => own_mid (h.args i p u hp hu) hm⟩
theorem RulesAt.mid {tT tP tR : TypeId} {base top : Nat} {w w' : World} {v : Value} {rs : List PRule} {hs bs : List Value} (h : RulesAt tT tP tR top w v rs hs bs) (hm : Mid base top w w') : RulesAt tT tP tR top w' v rs hs bs :=
  ⟨own_mid h.own hm, h.lh, h.lb, fun i p u hp hu => own_mid (h.heads i p u hp hu) hm, fun i p u hp hu => by obtain ⟨vs, hv⟩ := h.bodies i p u hp hu; exact ⟨vs, hv.mid hm⟩⟩
/-- a row of elements of z cells, elsewhere, that may be written -/
def SoftRow (g base top z : Nat) (w : World) (v : Value) : Prop :=
  ∃ (xa : Option Addr) (xn xc : Nat), v = .slice xa xn xc ∧ xn ≤ 1073741824 ∧ (xn = 0 ∨ ∃ h, xa = some ⟨h, 0, none⟩ ∧ base ≤ h ∧ h < top ∧ h ≠ g ∧ (∀ m, m < xn * z → ∃ x, w.cell? ⟨h, m, none⟩ = some x) ∧ ∀ m, w.frozen? ⟨h, m, none⟩ = false)
theorem SoftRow.nil (g base top z : Nat) (w : World) : SoftRow g base top z w (.slice none 0 0) := ⟨none, 0, 0, rfl, by omega, Or.inl rfl⟩
theorem some_set {w : World} {p a : Addr} {u : Value} (h : ∃ x, w.cell? p = some x) : ∃ x, (w.setCell a u).cell? p = some x := by
  obtain ⟨x, hx⟩ := h
  by_cases e : p = a
  · subst e; exact ⟨u, World.cell?_setCell_same _ _ _ hx⟩
  · exact ⟨x, by rw [World.cell?_setCell_other _ _ _ _ (fun h => e h.symm)]; exact hx⟩
theorem SoftRow.set {g base top z : Nat} {w : World} {v : Value} (h : SoftRow g base top z w v) (a : Addr) (u : Value) : SoftRow g base top z (w.setCell a u) v := by
  obtain ⟨xa, xn, xc, rfl, hn, h0 | ⟨k, rfl, h1, h2, h3, h4, h5⟩⟩ := h
  · exact ⟨xa, xn, xc, rfl, hn, Or.inl h0⟩
  · exact ⟨_, xn, xc, rfl, hn, Or.inr ⟨k, rfl, h1, h2, h3, fun m hm => some_set (h4 m hm), fun m => by rw [World.frozen?_setCell]; exact h5 m⟩⟩
/-- rows within rows that may be written: n elements of s cells at g, some of whose fields are rows -/
structure Spoilt (w1 : World) (base top g n s : Nat) (cols : List (Nat × Nat)) (w : World) : Prop where
  lo : base ≤ g
  hi : g < top
  mid : Mid base top w1 w
  cells : ∀ i, i < n * s → ∃ x, w.cell? ⟨g, i, none⟩ = some x
  thaw : ∀ i, w.frozen? ⟨g, i, none⟩ = false
  rows : ∀ i, i < n → ∀ oz ∈ cols, ∃ v, w.cell? ⟨g, i * s + oz.1, none⟩ = some v ∧ SoftRow g base top oz.2 w v
theorem Spoilt.set {w1 : World} {base top g n s : Nat} {cols : List (Nat × Nat)} {w : World} (h : Spoilt w1 base top g n s cols w) {b : Nat} (hb : base ≤ b) (ht : b < top) (j : Nat) (u : Value) (hc : b = g → (∃ oz ∈ cols, ∃ i, j = i * s + oz.1) → u = .slice none 0 0) : Spoilt w1 base top g n s cols (w.setCell ⟨b, j, none⟩ u) := by
  refine ⟨h.lo, h.hi, h.mid.set hb ht j u, fun i hi => some_set (h.cells i hi), fun i => by rw [World.frozen?_setCell]; exact h.thaw i, fun i hi oz ho => ?_⟩
  obtain ⟨v, hv, hs⟩ := h.rows i hi oz ho
  by_cases e : (⟨b, j, none⟩ : Addr) = ⟨g, i * s + oz.1, none⟩
  · cases e
    rw [hc rfl ⟨oz, ho, i, rfl⟩]
    exact ⟨_, World.cell?_setCell_same _ _ _ hv, SoftRow.nil _ _ _ _ _⟩
  · exact ⟨v, by rw [World.cell?_setCell_other _ _ _ _ e]; exact hv, hs.set _ _⟩
/-- another block's cells -/
theorem Spoilt.sets {w1 : World} {base top g n s : Nat} {cols : List (Nat × Nat)} {b : Nat} (hb : base ≤ b) (ht : b < top) (hne : b ≠ g) (us : List Value) : ∀ (j : Nat) (w : World), Spoilt w1 base top g n s cols w → Spoilt w1 base top g n s cols (sets w b j us) := by
  induction us with
  | nil => intro j w h; exact h
  | cons u us ih => intro j w h; exact ih (j + 1) _ (h.set hb ht j u (fun e => absurd e hne))
/-- an element of its own -/
theorem Spoilt.own {w1 : World} {base top g n s : Nat} {cols : List (Nat × Nat)} (us : List Value) : ∀ (j : Nat) (w : World), Spoilt w1 base top g n s cols w → (∀ (m : Nat) (u : Value), us[m]? = some u → (∃ oz ∈ cols, ∃ i, j + m = i * s + oz.1) → u = .slice none 0 0) → Spoilt w1 base top g n s cols (Go.Proofs.YtoelacloghkooaaGreatDoor.sets w g j us) := by
  induction us with
  | nil => intro j w h _; exact h
  | cons u us ih =>
    intro j w h hc
    refine ih (j + 1) _ (h.set h.lo h.hi j u (fun _ he => hc 0 u rfl he)) (fun m v hv he => hc (m + 1) v (by simpa using hv) ?_)
    rw [show j + (m + 1) = j + 1 + m from by omega]; exact he
theorem soft_terms {w : World} {base top g : Nat} {e e2 : TypeId} {v v2 : Value} {l : List PTerm} {s2 n2 : Nat} {ys : List Value} (h : w.ownsRow base e 3 v l.length (termsV l)) (h2 : w.ownsRow base e2 s2 v2 n2 ys) (hne : e ≠ e2) (hv2 : v2.ownBlock = some g) (hl : l.length ≤ 1073741824) (ht : w.heap.size ≤ top) : SoftRow g base top 3 w v := by
  have hk := kinds_ne h h2 hne
  rcases h.2 with ⟨rfl, h0⟩ | ⟨k, cap, cur, rfl, hb, hg, hn, hc, hs, htk⟩
  · exact SoftRow.nil _ _ _ _ _
  · refine ⟨_, _, cap, rfl, hl, Or.inr ⟨k, rfl, hb, ?_, fun e => hk k rfl (by rw [hv2, e]), fun m hm => ?_, fun m => own_soft h m⟩⟩
    · have := (Array.getElem?_eq_some_iff.1 hg).1; omega
    · have hm2 : m < (termsV l).length := by rw [termsV_len]; exact hm
      have := h.cells rfl m _ (List.getElem?_eq_getElem hm2)
      rw [add_zero] at this
      exact ⟨_, this⟩
theorem partsV_len : ∀ (ps : List PPart) (vs : List Value), vs.length = ps.length → (partsV ps vs).length = ps.length * 10 := by
  intro ps
  induction ps with
  | nil => intro vs h; cases vs <;> simp [partsV] at *
  | cons p ps ih => intro vs h; cases vs with
    | nil => simp at h
    | cons v vs => simp only [partsV, List.length_append, List.length_cons]; rw [ih vs (by simpa using h)]; simp [partV]; omega
theorem soft_parts {w : World} {base top g : Nat} {tT tP e2 : TypeId} {v v2 : Value} {ps : List PPart} {vs : List Value} {s2 n2 : Nat} {ys : List Value} (h : PartsAt tT tP base w v ps vs) (h2 : w.ownsRow base e2 s2 v2 n2 ys) (hne : tP ≠ e2) (hv2 : v2.ownBlock = some g) (hl : ps.length ≤ 1073741824) (ht : w.heap.size ≤ top) : SoftRow g base top 10 w v := by
  have hk := kinds_ne h.own h2 hne
  rcases h.own.2 with ⟨rfl, h0⟩ | ⟨k, cap, cur, rfl, hb, hg, hn, hc, hs, htk⟩
  · exact SoftRow.nil _ _ _ _ _
  · refine ⟨_, _, cap, rfl, hl, Or.inr ⟨k, rfl, hb, ?_, fun e => hk k rfl (by rw [hv2, e]), fun m hm => ?_, fun m => own_soft h.own m⟩⟩
    · have := (Array.getElem?_eq_some_iff.1 hg).1; omega
    · have hm2 : m < (partsV ps vs).length := by rw [partsV_len ps vs h.len]; exact hm
      have := h.own.cells rfl m _ (List.getElem?_eq_getElem hm2)
      rw [add_zero] at this
      exact ⟨_, this⟩
/-- parts may be spoilt -/
theorem spoilt_parts {w1 w : World} {base top g cap : Nat} {tT tP : TypeId} {ps : List PPart} {vs : List Value} (h : PartsAt tT tP base w1 (.slice (some ⟨g, 0, none⟩) ps.length cap) ps vs) (hne : tT ≠ tP) (hl : ∀ p ∈ ps, p.atom.args.length ≤ 1073741824) (ht : w1.heap.size = top) (hg : w1.grownBy w none) : Spoilt w base top g ps.length 10 [(2, 3)] w := by
  have h' := h.kept hg (fun g e => by cases e)
  have hb := own_blk h.own rfl
  have hlt : g < w1.heap.size := hb.2
  refine ⟨hb.1, by omega, Mid.refl _ _ _, fun i hi => ?_, fun i => own_soft h'.own i, fun i hi oz ho => ?_⟩
  · have hm2 : i < (partsV ps vs).length := by rw [partsV_len ps vs h.len]; exact hi
    have := h'.own.cells rfl i _ (List.getElem?_eq_getElem hm2)
    rw [add_zero] at this
    exact ⟨_, this⟩
  · simp at ho; subst ho
    have hi2 : i < vs.length := by rw [h.len]; exact hi
    have hc := h'.own.cells rfl (i * 10 + 2) vs[i] (by rw [partsV_at ps vs i 2 ps[i] vs[i] (List.getElem?_eq_getElem hi) (List.getElem?_eq_getElem hi2) (by omega)]; rfl)
    rw [add_zero] at hc
    refine ⟨_, hc, ?_⟩
    have hr := soft_terms (top := top) (h.args i ps[i] vs[i] (List.getElem?_eq_getElem hi) (List.getElem?_eq_getElem hi2)) h.own hne rfl (hl _ (List.getElem_mem hi)) (by omega)
    obtain ⟨xa, xn, xc, he, hn, h0 | ⟨k, rfl, h1, h2, h3, h4, h5⟩⟩ := hr
    · exact ⟨xa, xn, xc, he, hn, Or.inl h0⟩
    · refine ⟨_, xn, xc, he, hn, Or.inr ⟨k, rfl, h1, h2, h3, fun m hm => ?_, fun m => ?_⟩⟩
      · obtain ⟨x, hx⟩ := h4 m hm; exact ⟨x, grown_cell hg hx⟩
      · rw [← h5 m]; exact World.frozen?_of_block (w := w1) (hg.block k (by omega) (by simp))
end Go.Proofs.YtoelacloghkooaaGreatDoor

/-
  How many things a text has at the most, in plain lists.
-/
namespace Go.Proofs.YtoelacloghkooaaGreatDoor
set_option linter.unusedVariables false
theorem listF_len {α : Type} (bg : Nat → Bool) (one : Nat → Except PErr (α × Nat)) (go : Nat → Option Nat) (P : α → Prop) (h1 : ∀ p x q, one p = .ok (x, q) → P x) : ∀ (n p : Nat) (xs : List α) (r : Nat), listF bg one go n p = .ok (xs, r) → xs.length ≤ n ∧ ∀ x ∈ xs, P x := by
  intro n
  induction n with
  | zero => intro p xs r h; unfold listF at h; split at h <;> cases h
  | succ n ih =>
    intro p xs r h
    unfold listF at h
    split at h
    · cases ho : one p with
      | error er => rw [ho] at h; cases h
      | ok v =>
        obtain ⟨y, q⟩ := v
        rw [ho] at h
        simp only [] at h
        cases hg : go q with
        | none => rw [hg] at h; cases h; exact ⟨by simp, fun x hx => by simp at hx; subst hx; exact h1 _ _ _ ho⟩
        | some r1 =>
          rw [hg] at h
          simp only [] at h
          cases hl : listF bg one go n r1 with
          | error er => rw [hl] at h; cases h
          | ok v =>
            obtain ⟨ys, r2⟩ := v
            rw [hl] at h; cases h
            obtain ⟨k1, k2⟩ := ih r1 ys r hl
            exact ⟨by simp; omega, fun x hx => by
              rcases List.mem_cons.1 hx with rfl | hx
              · exact h1 _ _ _ ho
              · exact k2 x hx⟩
    · cases h
theorem atomF_len (l : List UInt8) (p : Nat) (a : PAtom) (q : Nat) (h : atomF l p = .ok (a, q)) : a.args.length ≤ 8 := by
  unfold atomF at h
  split at h
  · split at h
    · cases h; simp
    · split at h
      · cases h
      · rename_i heq
        split at h
        · cases h
        · cases h; exact (listF_len _ _ _ (fun _ => True) (fun _ _ _ _ => trivial) _ _ _ _ heq).1
  · cases h
theorem partF_len (l : List UInt8) (p : Nat) (x : PPart) (q : Nat) (h : partF l p = .ok (x, q)) : x.atom.args.length ≤ 8 := by
  unfold partF at h
  split at h
  · split at h
    · cases h
    · rename_i heq; cases h; exact atomF_len _ _ _ _ heq
  · split at h
    · split at h
      · cases h
      · rename_i heq; cases h; exact atomF_len _ _ _ _ heq
    · split at h
      · cases h
      · split at h
        · cases h
        · split at h
          · cases h
          · cases h; simp [noAtom]
theorem partsF_len (l : List UInt8) (p : Nat) (ps : List PPart) (r : Nat) (h : partsF l p = .ok (ps, r)) : ps.length ≤ 12 ∧ ∀ x ∈ ps, x.atom.args.length ≤ 8 := listF_len _ _ _ _ (fun p x q hx => partF_len l p x q hx) _ _ _ _ h
theorem queryF_len (l : List UInt8) (ps : List PPart) (h : queryF l = .ok ps) : ps.length ≤ 12 ∧ ∀ x ∈ ps, x.atom.args.length ≤ 8 := by
  unfold queryF at h
  split at h
  · cases h
  · split at h
    · cases h
    · rename_i heq
      split at h
      · cases h
      · split at h
        · cases h; exact partsF_len _ _ _ _ heq
        · cases h
/-- a rule of no more than so much -/
def Small (r : PRule) : Prop := r.head.args.length ≤ 8 ∧ r.body.length ≤ 12 ∧ ∀ x ∈ r.body, x.atom.args.length ≤ 8
theorem ruleF_len (l : List UInt8) (p : Nat) (r : PRule) (q : Nat) (h : ruleF l p = .ok (r, q)) : Small r := by
  unfold ruleF at h
  split at h
  · cases h
  · rename_i ha
    split at h
    · cases h
    · rename_i hb
      split at h
      · cases h
      · cases h
        have h1 := atomF_len _ _ _ _ ha
        split at hb
        · cases hb; exact ⟨h1, by simp, by simp⟩
        · obtain ⟨k1, k2⟩ := partsF_len _ _ _ _ hb; exact ⟨h1, k1, k2⟩
theorem parseF_len (l : List UInt8) (rs : List PRule) (h : parseF l = .ok rs) : rs.length ≤ 200 ∧ ∀ r ∈ rs, Small r := by
  unfold parseF at h
  split at h
  · cases h
  · split at h
    · cases h; simp
    · split at h
      · cases h
      · rename_i heq; cases h; exact listF_len _ _ _ _ (fun p x q hx => ruleF_len l p x q hx) _ _ _ _ heq
end Go.Proofs.YtoelacloghkooaaGreatDoor
