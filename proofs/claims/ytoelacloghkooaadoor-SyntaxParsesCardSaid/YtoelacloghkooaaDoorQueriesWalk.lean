/-
  SyntaxQueries' walk.
-/
import Derived.Test.YtoelacloghkooaaDoorPrRead
import Derived.Test.YtoelacloghkooaaDoorRdQuery
import Derived.Test.YtoelacloghkooaaDoorSpoiling
import Derived.Test.YtoelacloghkooaaDoorBounds
namespace Go.Proofs.YtoelacloghkooaaDoor
open Go.ChangeShapes Go.WideShapes Go.ChangeAt Go.RowKit
set_option linter.unusedVariables false
set_option maxRecDepth 100000 in
set_option maxHeartbeats 400000 in
theorem num_at (n : Int) (w : World) : Calls Tryd.prog 8 #[.int .i64 n] w fun e w' => e = .returned (.int .i64 n) ∧ w = w' := by
  go_enter Tryd.func8, Tryd.ntmps8
  go_wp2
  go_ret
  exact ⟨rfl, rfl⟩
/-- the three answers of a query, with an error or without -/
def psOf : Except PErr (List PPart) → List PPart
  | .error _ => []
  | .ok ps => ps
def eOf {α : Type} : Except PErr α → Nat
  | .error (e, _) => e
  | .ok _ => 0
def xOf {α : Type} : Except PErr α → Nat
  | .error (_, x) => x
  | .ok _ => 0
theorem partsQ_of {base : Nat} {r : Except PErr (List PPart)} {en : Ending} {w : World} (h : PartsQ base r en w) : ∃ v vs, en = .returned (.tuple #[v, .int .i64 (eOf r : Nat), .int .i64 (xOf r : Nat)]) ∧ PartsAt 38 40 base w v (psOf r) vs := by
  cases r with
  | error er => obtain ⟨e, x⟩ := er; exact ⟨_, _, h, PartsAt.nil _ _ _ _⟩
  | ok ps => exact h
theorem partsR_of {tT tP : TypeId} {base : Nat} {r : Except PErr (List PPart)} {en : Ending} {w : World} (h : PartsR tT tP base r en w) : ∃ v vs, en = .returned (.tuple #[v, .int .i64 (eOf r : Nat), .int .i64 (xOf r : Nat)]) ∧ PartsAt tT tP base w v (psOf r) vs := by
  cases r with
  | error er => obtain ⟨e, x⟩ := er; exact ⟨_, _, h, PartsAt.nil _ _ _ _⟩
  | ok ps => exact h
theorem ErrB.below {w w' : World} {L T M : Addr} {B : Nat} (h : ErrB w L T M) (hg : Below B w w') (hb : w.heap.size ≤ B) : ErrB w' L T M := by
  have k : ∀ a : Addr, (∃ c t, w.heap[a.block]? = some (.cells c t (0, 0))) → ∃ c t, w'.heap[a.block]? = some (.cells c t (0, 0)) := fun a ⟨c, t, h⟩ => ⟨c, t, by rw [hg.block _ (Nat.lt_of_lt_of_le (Array.getElem?_eq_some_iff.1 h).1 hb)]; exact h⟩
  exact ⟨k _ h.l, k _ h.t, k _ h.m⟩
theorem below_fresh {w w' : World} (h : w.grownBy w' none) : Below w.heap.size w w' := ⟨h.os, h.tape, h.output, h.size, fun k hk => h.block k hk (by simp)⟩
theorem fresh_below {w w' : World} (h : Below w.heap.size w w') : w.grownBy w' none := ⟨h.os, h.tape, h.output, h.size, fun k hk _ => h.block k hk⟩
theorem psOf_len (l : List UInt8) : (psOf (queryF l)).length ≤ 12 ∧ ∀ x ∈ psOf (queryF l), x.atom.args.length ≤ 8 := by
  cases h : queryF l with
  | error er => simp [psOf]
  | ok ps => exact queryF_len l ps h
set_option maxRecDepth 100000 in
set_option maxHeartbeats 4000000 in
theorem queries_walk (s : ByteArray) (L T M : Addr) (w : World) (hE : Errs w L T M) (hB : ErrB w L T M) (hgt : gTop ≤ w.heap.size) :
    Calls Tryd.prog 4 #[.string s] w fun e w' => e = .returned (.bool true) ∧ Below w.heap.size w w' := by
  have HE := hide hE
  have HB := hide hB
  have HQ1 := hide (pQuery_any s L T M w hE hB hgt)
  have HPL := hide (psOf_len s.data.toList)
  clear hE hB
  obtain ⟨Q, HQ⟩ : ∃ Q, Hid (queryF s.data.toList = Q) := ⟨_, (rfl : _ = _)⟩
  rw [HQ.out] at HQ1 HPL
  go_enter Tryd.func4, Tryd.ntmps4
  go_wp2_with fail
  refine HQ1.out.mono ?_
  rintro e w1 ⟨hq, hg⟩
  obtain ⟨v, us, rfl, hpa⟩ := partsQ_of hq
  have HPA := hide hpa
  have HG1 := hide hg
  clear hq hg HQ1
  obtain ⟨va, vc, hv⟩ := own_form hpa.own
  subst hv
  clear hpa
  obtain ⟨ec, HEC⟩ : ∃ ec, Hid (eOf Q = ec) := ⟨_, (rfl : _ = _)⟩
  obtain ⟨xc, HXC⟩ : ∃ xc, Hid (xOf Q = xc) := ⟨_, (rfl : _ = _)⟩
  obtain ⟨ps, HPS⟩ : ∃ ps, Hid (psOf Q = ps) := ⟨_, (rfl : _ = _)⟩
  rw [HEC.out, HXC.out]
  rw [HPS.out] at HPA HPL ⊢
  have HRQ : Hid (∀ w1, Calls Tryd.prog 10 #[.string s] w1 fun en w' => PartsR 76 78 w1.heap.size Q en w' ∧ Below w1.heap.size w1 w') := by
    intro w1
    have := readQuery_any s w1
    rw [readQuery_is, HQ.out] at this
    exact this
  go_wp2_with fail
  refine (HRQ.out _).mono ?_
  rintro e w2 ⟨hq, hbl⟩
  obtain ⟨v2, vs, rfl, hpb⟩ := partsR_of hq
  have hg2 := fresh_below hbl
  rw [HPS.out] at hpb
  have HPB := hide hpb
  have HPA2 := hide (HPA.out.kept hg2 (fun g e => by cases e))
  have HG2 := hide (fr_both HG1.out hg2)
  have hz2 := hg2.size
  have HG12 := hide hg2
  clear hq hbl hg2 HRQ
  obtain ⟨vb, vd, hv⟩ := own_form hpb.own
  subst hv
  clear hpb
  rw [HEC.out, HXC.out]
  have hn12 := HPL.out.1
  have hn : ps.length ≤ 1073741824 := by omega
  have HNA : Hid (∀ p ∈ ps, p.atom.args.length ≤ 1073741824) := fun p hp => by have := HPL.out.2 p hp; omega
  go_wp2_with fail
  refine (sameParts_any true ps ps _ _ us vs w.heap.size w1.heap.size _ (SamePs.refl _ _) HPA2.out HPB.out hn HNA.out).mono ?_
  rintro e w3 ⟨rfl, hg3⟩
  have HPA3 := hide (HPA2.out.kept hg3 (fun g e => by cases e))
  have HPB3 := hide (HPB.out.kept hg3 (fun g e => by cases e))
  have HG3 := hide (fr_both HG2.out hg3)
  have HG13 := hide (fr_both HG12.out hg3)
  have hz3 : w1.heap.size ≤ w3.heap.size := Nat.le_trans hz2 hg3.size
  clear hg3 HPA2 HPB HG2 HG12 hz2
  have HZ : Hid (ps = [] ∨ ∃ g, va = some ⟨g, 0, none⟩ ∧ Spoilt w3 w.heap.size w1.heap.size g ps.length 10 [(2, 3)] w3) := by
    rcases own_parts HPA.out with ⟨-, h1⟩ | ⟨g, cap, hv, -, -, -, -⟩
    · exact Or.inl h1
    · cases hv
      exact Or.inr ⟨g, rfl, spoilt_parts HPA.out (by decide) HNA.out rfl HG13.out⟩
  obtain ⟨n, HN⟩ : ∃ n, Hid (ps.length = n) := ⟨_, (rfl : _ = _)⟩
  rw [HN.out] at hn hn12 HZ ⊢
  obtain ⟨nb, HNB⟩ : ∃ nb, Hid (n = nb) := ⟨_, (rfl : _ = _)⟩
  go_wp2_with fail
  go_loopw [10] (fun iv wr => ∃ k : Nat, k ≤ n ∧ iv = .int .i64 k ∧ Hid (Mid w.heap.size w1.heap.size w3 wr) ∧ Hid (n = 0 ∨ ∃ g, va = some ⟨g, 0, none⟩ ∧ Spoilt w3 w.heap.size w1.heap.size g n 10 [(2, 3)] wr)) (fun iv _ => n - (intOf iv).toNat)
  case atStart => exact ⟨0, by omega, rfl, Mid.refl _ _ _, by rcases HZ.out with h | h; exact Or.inl (by have := HN.out; rw [h] at this; exact this.symm); exact Or.inr h⟩
  case round =>
    obtain ⟨k, hk, rfl, HM, HS⟩ := hrel
    by_cases hlt : k < n
    · obtain ⟨g, hvg, hsp⟩ : ∃ g, va = some ⟨g, 0, none⟩ ∧ Spoilt w3 w.heap.size w1.heap.size g n 10 [(2, 3)] wr := by
        rcases HS.out with h | h
        · omega
        · exact h
      subst hvg
      have HSP := hide hsp
      obtain ⟨x, hx, hsx⟩ := hsp.rows k hlt (2, 3) (by simp)
      obtain ⟨xa, xn, xcc, rfl, hxn, -⟩ := hsx
      have HCX := hide hx
      clear hx HS hsp
      simp only [] at HCX
      go_wp2_with fail
      go_loopw [11] (fun jv wz => ∃ j : Nat, j ≤ xn ∧ jv = .int .i64 j ∧ Hid (wz.cell? ⟨g, k * 10 + 2, none⟩ = some (.slice xa xn xcc)) ∧ Hid (Spoilt w3 w.heap.size w1.heap.size g n 10 [(2, 3)] wz)) (fun jv _ => xn - (intOf jv).toNat)
      case atStart => exact ⟨0, by omega, rfl, HCX, HSP⟩
      case round =>
        obtain ⟨j, hj, rfl, HC2, HS2⟩ := hrel
        have cx := HC2.out
        by_cases hjn : j < xn
        · obtain ⟨x', hx', hs'⟩ := HS2.out.rows k hlt (2, 3) (by simp)
          simp only [] at hx'
          rw [cx] at hx'
          cases hx'
          obtain ⟨a', n', c', he, -, h0 | ⟨h, hah, hlo, hhi, hne, hcs, hfz⟩⟩ := hs'
          · cases he; omega
          · cases he
            subst hah
            obtain ⟨t0, d0⟩ := hcs (j * 3) (by omega)
            obtain ⟨t1, d1⟩ := hcs (j * 3 + 1) (by omega)
            obtain ⟨t2, d2⟩ := hcs (j * 3 + 2) (by omega)
            have f0 := hfz (j * 3)
            have f1 := hfz (j * 3 + 1)
            have f2 := hfz (j * 3 + 2)
            clear hcs hfz
            go_wp2
            go_roundw
            case rel =>
              refine ⟨j + 1, by omega, by go_num, ?_, ((HS2.out.set hlo hhi _ _ (fun e => absurd e hne)).set hlo hhi _ _ (fun e => absurd e hne)).set hlo hhi _ _ (fun e => absurd e hne)⟩
              show _ = _
              rw [World.cell?_setCell_other _ _ _ _ (fun e => hne (congrArg Addr.block e)), World.cell?_setCell_other _ _ _ _ (fun e => hne (congrArg Addr.block e)), World.cell?_setCell_other _ _ _ _ (fun e => hne (congrArg Addr.block e))]
              exact HC2.out
            case measure => simp [intOf]; omega
        · obtain ⟨t0, d0⟩ := HS2.out.cells (k * 10) (by omega)
          obtain ⟨t1, d1⟩ := HS2.out.cells (k * 10 + 1) (by omega)
          obtain ⟨t3, d3⟩ := HS2.out.cells (k * 10 + 3) (by omega)
          obtain ⟨t4, d4⟩ := HS2.out.cells (k * 10 + 4) (by omega)
          obtain ⟨t5, d5⟩ := HS2.out.cells (k * 10 + 5) (by omega)
          obtain ⟨t6, d6⟩ := HS2.out.cells (k * 10 + 6) (by omega)
          obtain ⟨t7, d7⟩ := HS2.out.cells (k * 10 + 7) (by omega)
          obtain ⟨t8, d8⟩ := HS2.out.cells (k * 10 + 8) (by omega)
          obtain ⟨t9, d9⟩ := HS2.out.cells (k * 10 + 9) (by omega)
          have f0 := HS2.out.thaw (k * 10)
          have f1 := HS2.out.thaw (k * 10 + 1)
          have f2 := HS2.out.thaw (k * 10 + 2)
          have f3 := HS2.out.thaw (k * 10 + 3)
          have f4 := HS2.out.thaw (k * 10 + 4)
          have f5 := HS2.out.thaw (k * 10 + 5)
          have f6 := HS2.out.thaw (k * 10 + 6)
          have f7 := HS2.out.thaw (k * 10 + 7)
          have f8 := HS2.out.thaw (k * 10 + 8)
          have f9 := HS2.out.thaw (k * 10 + 9)
          have hlo := HS2.out.lo
          have hhi := HS2.out.hi
          have HPC : Hid (∀ (c : Nat) (u : Value), c < 10 → c ≠ 2 → g = g → (∃ oz ∈ [((2, 3) : Nat × Nat)], ∃ i, k * 10 + c = i * 10 + oz.1) → u = .slice none 0 0) := by
            rintro c u hc h2 - ⟨oz, ho, i, hi⟩
            simp at ho; subst ho; simp only [] at hi; omega
          go_wp2
          go_roundw
          case rel =>
            have hf := ((((((((((HS2.out.set hlo hhi (k * 10) (.int .i64 9) (HPC.out 0 _ (by omega) (by omega))).set hlo hhi (k * 10 + 1) (.string { data := #[] }) (HPC.out 1 _ (by omega) (by omega))).set hlo hhi (k * 10 + 2) (.slice none 0 0) (fun _ _ => rfl)).set hlo hhi (k * 10 + 3) (.int .i64 0) (HPC.out 3 _ (by omega) (by omega))).set hlo hhi (k * 10 + 4) (.bool false) (HPC.out 4 _ (by omega) (by omega))).set hlo hhi (k * 10 + 5) (.string { data := #[] }) (HPC.out 5 _ (by omega) (by omega))).set hlo hhi (k * 10 + 6) (.int .i64 0) (HPC.out 6 _ (by omega) (by omega))).set hlo hhi (k * 10 + 7) (.bool false) (HPC.out 7 _ (by omega) (by omega))).set hlo hhi (k * 10 + 8) (.string { data := #[] }) (HPC.out 8 _ (by omega) (by omega))).set hlo hhi (k * 10 + 9) (.int .i64 0) (HPC.out 9 _ (by omega) (by omega)))
            exact ⟨k + 1, by omega, by go_num, hf.mid, Or.inr ⟨g, rfl, hf⟩⟩
          case measure => simp [intOf]; omega
    · have HBW : Hid (Below w.heap.size w wr) := HM.out.below (below_fresh HG3.out)
      have HER := hide (HE.out.below HBW.out hgt)
      have HEB := hide (HB.out.below HBW.out (Nat.le_refl _))
      have hgw : gTop ≤ wr.heap.size := Nat.le_trans hgt HBW.out.size
      have HPBr := hide (HPB3.out.mid HM.out)
      have HQ2 := hide (pQuery_any s L T M wr HER.out HEB.out hgw)
      rw [HQ.out] at HQ2
      go_wp2_with fail
      refine HQ2.out.mono ?_
      rintro e w5 ⟨hq, hg⟩
      obtain ⟨v5, us5, rfl, hpa⟩ := partsQ_of hq
      rw [HPS.out] at hpa
      have HPA5 := hide hpa
      have HPB5 := hide (HPBr.out.kept hg (fun g e => by cases e))
      have HB5 : Hid (Below w.heap.size w w5) := HBW.out.trans ((below_fresh hg).mono HBW.out.size)
      clear hq hg HQ2
      obtain ⟨va5, vc5, hv⟩ := own_form hpa.own
      subst hv
      clear hpa
      rw [HEC.out, HXC.out]
      rw [HN.out] at HPA5 HPB5 ⊢
      have hn5 : ps.length ≤ 1073741824 := by have := HN.out; omega
      have HSM := hide (sameParts_any true ps ps _ _ us5 vs wr.heap.size w1.heap.size _ (SamePs.refl _ _) HPA5.out HPB5.out hn5 HNA.out)
      go_wp2_with fail
      refine HSM.out.mono ?_
      rintro e w6 ⟨rfl, hg6⟩
      have HB6 : Hid (Below w.heap.size w w6) := HB5.out.trans ((below_fresh hg6).mono HB5.out.size)
      clear hg6
      go_wp2_with fail
      refine (num_at _ _).mono ?_
      rintro e w7 ⟨rfl, rfl⟩
      go_wp2
      go_ret
      exact ⟨rfl, HB6.out⟩
end Go.Proofs.YtoelacloghkooaaDoor
