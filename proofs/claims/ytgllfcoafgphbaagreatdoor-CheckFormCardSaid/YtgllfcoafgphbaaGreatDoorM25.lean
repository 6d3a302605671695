import Derived.Test.YtgllfcoafgphbaaGreatDoorM01
import Derived.Test.YtgllfcoafgphbaaGreatDoorM24
import Derived.Test.YtgllfcoafgphbaaGreatDoorM10
import Derived.Laws.OwnMore
import Derived.Deep.RegionHeld3
/-
  The program's slices.Sorted(maps.Keys(numbers)), by the library's contracts.
-/
namespace Go.Proofs.YtgllfcoafgphbaaGreatDoor
open Go.RowKit Go.Maps Go.Sort Go.Shelf
set_option linter.unusedVariables false
theorem sortsZ (m : Nat) : AnyZ.SortsIn Tryz.prog Tryz.sorted_ren Fence.wide m :=
  ⟨fun blk off cap ss W hH hblk hsz => callsIn_wide.2 (AnyM.slices_Sort_string Tryz.sort blk off cap ss W hH hblk hsz),
   fun p cap W => callsIn_wide.2 (AnyM.slices_Sort_string_none Tryz.sort p cap W)⟩
theorem keysM_any (mb : Option Nat) (W : World) : CallsIn Fence.wide 5 Tryz.prog 24 #[.map mb] W fun e w' => e = .returned (.func (.func 51) #[] #[.pointer (some ⟨W.heap.size, 0, none⟩)]) ∧ w' = W.alloc (.cells #[.map mb] 56) :=
  AnyZ.keys_in Tryz.keys Fence.wide 5 trivial rfl mb W
set_option maxHeartbeats 1000000 in
theorem sortedK_any {H : Type} (b nn : Nat) (D0 : DataW H) (R : Value → Option (DataW H × List MemPlace)) (w : World) (hown : w.ownsMap Tryz.prog 9 R b nn D0) (hmax : Maps.size D0 ≤ maxLen) (hbytes : Maps.size D0 * 16 ≤ 140737488355328) :
    CallsIn Fence.wide 5 Tryz.prog 23 #[.func (.func 51) #[] #[.pointer (some ⟨w.heap.size, 0, none⟩)]] (w.alloc (.cells #[.map (some b)] 56)) fun e w' => ∃ (v : Value) (ss : List (List UInt8)), e = .returned v ∧ ss.Perm (strKeys D0) ∧
      w'.ownsRow (w.alloc (.cells #[.map (some b)] 56)).heap.size 9 1 v ss.length ((ss.mergeSort (fun x y => decide (x ≤ y))).map encStr) ∧ (v = .slice none 0 0 ↔ ss = []) ∧ Below (w.alloc (.cells #[.map (some b)] 56)).heap.size (w.alloc (.cells #[.map (some b)] 56)) w' := by
  have hbl := hown.lt
  have hseq : SeqGives Fence.wide 2 Tryz.prog 51 #[.pointer (some ⟨w.heap.size, 0, none⟩)] encStr (fun ss => ss.Perm (strKeys D0)) (Maps.size D0) (w.alloc (.cells #[.map (some b)] 56)) :=
    AnyZ.keys_gives (ρ := Tryz.keys_ren) { Tryz.keys with } Fence.wide _ trivial rfl (by omega) w.heap.size b nn D0 _ (by simp) (by simp) (by
      obtain ⟨es, clock, hb, Ft, hs, hD⟩ := hown
      exact ⟨es, clock, (Below.heap_alloc _ _ b hbl).trans hb, Ft, hs, hD⟩)
  exact AnyZ.sorted_in Tryz.sorted Fence.wide 5 trivial trivial trivial trivial rfl (by omega) (sortsZ _) (enters_of Tryz.func50 (by kernel_rfl) rfl) 51 #[.pointer (some ⟨w.heap.size, 0, none⟩)] trivial (enters_of Tryz.func51 (by kernel_rfl) rfl) _ _ hmax hbytes _ hseq
end Go.Proofs.YtgllfcoafgphbaaGreatDoor

/-
  The document's bound and loose, walked.
-/
namespace Go.Proofs.YtgllfcoafgphbaaGreatDoor
open Go.ChangeShapes Go.WideShapes Go.ChangeAt Go.RowKit
set_option linter.unusedVariables false
/-- does a term bind that variable? -/
def bindsT (v : List UInt8) (t : PTerm) : Bool := t.isVar && t.text == v
theorem boundV_take (body : List PPart) (v : List UInt8) (k : Nat) (hk : k < body.length) : boundV (body.take (k + 1)) v = (boundV (body.take k) v || (decide (body[k].kind = 0) && body[k].atom.args.any (bindsT v))) := by
  unfold boundV bindsT
  rw [List.take_succ_eq_append_getElem hk, List.any_append]
  simp
theorem any_take {α : Type} (f : α → Bool) (l : List α) (k : Nat) (hk : k < l.length) : (l.take (k + 1)).any f = ((l.take k).any f || f l[k]) := by
  rw [List.take_succ_eq_append_getElem hk, List.any_append]; simp
theorem boundV_of (body : List PPart) (v : List UInt8) (k : Nat) (hk : k < body.length) (h0 : body[k].kind = 0) (h : body[k].atom.args.any (bindsT v) = true) : boundV body v = true := by
  unfold boundV
  rw [List.any_eq_true]
  exact ⟨body[k], List.getElem_mem hk, by unfold bindsT at h; rw [Bool.and_eq_true]; exact ⟨decide_eq_true h0, h⟩⟩
theorem str_beq (a b : List UInt8) : ((str a).toList == (str b).toList) = (a == b) := by rw [toList_str, toList_str]
set_option maxRecDepth 100000 in
set_option maxHeartbeats 4000000 in
theorem rbound_any (body : List PPart) (vb : Value) (vs : List Value) (B : Nat) (v : List UInt8) (w : World) (h : PartsAt 45 47 B w vb body vs) (hl : body.length ≤ 1073741824) (hla : ∀ p ∈ body, p.atom.args.length ≤ 1073741824) :
    Calls Tryz.prog 76 #[vb, .string (str v)] w fun e w' => e = .returned (.bool (boundV body v)) ∧ w.grownBy w' none := by
  have HLA := hide hla
  have HA := hide h
  obtain ⟨aa, ca, hva⟩ := own_form h.own
  subst hva
  clear h hla
  obtain ⟨N, HN⟩ : ∃ N, Hid (body.length = N) := ⟨_, (rfl : _ = _)⟩
  rw [HN.out] at hl ⊢
  obtain ⟨sv, HSV⟩ : ∃ sv, Hid (str v = sv) := ⟨_, (rfl : _ = _)⟩
  rw [HSV.out]
  go_enter Tryz.func76, Tryz.ntmps76
  go_wp2_with fail
  go_loopw [5, 6, 7] (fun iv av kv wr => ∃ k : Nat, k ≤ N ∧ iv = .int .i64 k ∧ Hid (boundV (body.take k) v = false) ∧ Hid (w.grownBy wr none)) (fun iv _ _ _ => N - (intOf iv).toNat)
  case atStart => exact ⟨0, by omega, rfl, hide rfl, fr_refl _ _⟩
  case round =>
    obtain ⟨k, hk, rfl, HB, HG⟩ := hrel
    by_cases hlt : k < N
    · have hkr : k < body.length := by have := HN.out; omega
      have hkv : k < vs.length := by have := HA.out.len; omega
      have hor := HA.out
      rcases own_parts hor with ⟨h0, h1⟩ | ⟨gr, cr, hvr, -, -, hcr, -⟩
      · rw [h1] at hkr; simp at hkr
      cases hvr
      have HCR := hide (hcr k body[k] vs[k] (List.getElem?_eq_getElem hkr) (List.getElem?_eq_getElem hkv))
      have HAR := hide (hor.args k body[k] vs[k] (List.getElem?_eq_getElem hkr) (List.getElem?_eq_getElem hkv))
      have HST := hide (boundV_take body v k hkr)
      have HOF := hide (boundV_of body v k hkr)
      have HLK := hide (HLA.out _ (List.getElem_mem hkr))
      clear hcr hor
      generalize body[k] = p at *
      obtain ⟨xa, xc, hxx⟩ := own_form HAR.out
      rw [hxx] at HCR HAR
      clear hxx
      have kp : ∀ (j : Nat) (x : Value), (partV p (.slice xa p.atom.args.length xc))[j]? = some x → wr.cell? ⟨gr, k * 10 + j, none⟩ = some x := fun j x hx => grown_cell HG.out (HCR.out j x hx)
      have d0 := kp 0 _ rfl
      have d1 := kp 1 _ rfl
      have d2 := kp 2 _ rfl
      have d3 := kp 3 _ rfl
      simp only [Nat.add_zero] at d0
      clear kp
      by_cases h0 : p.kind = 0
      · have hb : (((p.kind : Nat) : Int) != 0) = false := by simp [h0]
        have HK0 := hide h0
        clear h0
        go_wp2_with fail
        generalize hw1 : World.alloc _ _ = w1
        have HG1 : Hid (w.grownBy w1 none) := by rw [← hw1]; exact fr_both HG.out (fr_alloc _ _ _)
        have HB1 : Hid (w1.cell? ⟨wr.heap.size, 1, none⟩ = some (.slice xa p.atom.args.length xc)) := by show _ = _; rw [← hw1]; simp
        clear hw1 d0 d1 d2 d3 HCR
        have hml := HLK.out
        obtain ⟨M, HM⟩ : ∃ M, Hid (p.atom.args.length = M) := ⟨_, (rfl : _ = _)⟩
        rw [HM.out] at HB1 hml HAR
        obtain ⟨bx, HBX⟩ : ∃ bx, Hid (wr.heap.size = bx) := ⟨_, (rfl : _ = _)⟩
        rw [HBX.out] at HB1
        go_loopw [7] (fun kv wi => ∃ m : Nat, m ≤ M ∧ kv = .int .i64 m ∧ Hid ((p.atom.args.take m).any (bindsT v) = false) ∧ Hid (w1.grownBy wi none)) (fun kv _ => M - (intOf kv).toNat)
        case atStart => exact ⟨0, by omega, rfl, hide rfl, fr_refl _ _⟩
        case round =>
          obtain ⟨m, hm, rfl, HBM, HGI⟩ := hrel
          rw [HBX.out]
          have c1 := grown_cell HGI.out HB1.out
          by_cases hmt : m < M
          · have hma : m < p.atom.args.length := by have := HM.out; omega
            have HAR2 : Hid (w.ownsRow B 45 3 (.slice xa M xc) p.atom.args.length (termsV p.atom.args)) := by show World.ownsRow _ _ _ _ _ _ _; rw [HM.out]; exact HAR.out
            rcases own_terms HAR2.out with ⟨h0, h1⟩ | ⟨gt, ct, hvt, -, -, hct⟩
            · rw [h1] at hma; simp at hma
            cases hvt
            obtain ⟨t0, t1, -⟩ := hct m hma
            have HGA := hide (fr_both HG1.out HGI.out)
            replace t0 := grown_cell HGA.out t0
            replace t1 := grown_cell HGA.out t1
            have HNT := hide (any_take (bindsT v) p.atom.args m hma)
            have HYT : Hid (bindsT v p.atom.args[m] = true → p.atom.args.any (bindsT v) = true) := fun h => List.any_eq_true.2 ⟨_, List.getElem_mem hma, h⟩
            clear hct HAR2
            generalize p.atom.args[m] = t at *
            obtain ⟨iv, tx, pl⟩ := t
            obtain ⟨sx, HSX⟩ : ∃ sx, Hid (str tx = sx) := ⟨_, (rfl : _ = _)⟩
            simp only [] at t0 t1
            rw [HSX.out] at t1
            cases iv with
            | false =>
              have HNX : Hid ((p.atom.args.take (m + 1)).any (bindsT v) = false) := by show _ = _; rw [HNT.out, HBM.out]; rfl
              clear HNT HYT
              go_wp2
              go_roundw
              case rel => exact ⟨m + 1, by omega, by go_num, HNX, HGI⟩
              case measure => simp [intOf]; omega
            | true =>
              by_cases he : tx = v
              · have hq : (sx.toList == sv.toList) = true := by rw [← HSX.out, ← HSV.out, str_beq, he]; simp
                have HR : Hid (boundV body v = true) := HOF.out HK0.out (HYT.out (by simp [bindsT, he]))
                clear HNT HYT he
                go_wp2
                go_ret
                exact ⟨ret_bool HR.out.symm, HGA.out⟩
              · have hq : (sx.toList == sv.toList) = false := by rw [← HSX.out, ← HSV.out, str_beq]; simp [he]
                have HNX : Hid ((p.atom.args.take (m + 1)).any (bindsT v) = false) := by show _ = _; rw [HNT.out, HBM.out]; simp [bindsT, he]
                clear HNT HYT he
                go_wp2
                go_roundw
                case rel => exact ⟨m + 1, by omega, by go_num, HNX, HGI⟩
                case measure => simp [intOf]; omega
          · have HNX : Hid (boundV (body.take (k + 1)) v = false) := by
              show _ = _
              have := HBM.out
              rw [List.take_of_length_le (by have := HM.out; omega)] at this
              rw [HST.out, HB.out, this]; simp
            have HGA := hide (fr_both HG1.out HGI.out)
            go_wp2
            go_roundw
            case rel => exact ⟨k + 1, by omega, by go_num, HNX, HGA⟩
            case measure => simp [intOf]; omega
      · have hb : (((p.kind : Nat) : Int) != 0) = true := by rw [bne_iff_ne]; omega
        have HNX : Hid (boundV (body.take (k + 1)) v = false) := by show _ = _; rw [HST.out, HB.out]; simp [h0]
        clear h0
        go_wp2
        go_roundw
        case rel => exact ⟨k + 1, by omega, by go_num, HNX, HG⟩
        case measure => simp [intOf]; omega
    · have HE : Hid (boundV body v = false) := by
        have := HB.out
        rw [List.take_of_length_le (by have := HN.out; omega)] at this
        exact this
      go_wp2
      go_ret
      exact ⟨ret_bool HE.out.symm, HG.out⟩
/-- a place, or -1 -/
def looseI (o : Option PTerm) : Int := match o with
  | some t => (t.place : Nat)
  | none => -1
theorem ret_i64 {a b : Int} (h : a = b) : Ending.returned (.int .i64 a) = .returned (.int .i64 b) := by rw [h]
theorem loose_take (ts : List PTerm) (body : List PPart) (k : Nat) (hk : k < ts.length) : looseF (ts.take (k + 1)) body = (looseF (ts.take k) body).or (if ts[k].isVar && !boundV body ts[k].text then some ts[k] else none) := by
  rw [List.take_succ_eq_append_getElem hk, loose_append]
  congr 1
  simp only [looseF, List.find?_cons, List.find?_nil]
  generalize (ts[k].isVar && !boundV body ts[k].text) = q
  cases q <;> rfl
theorem loose_hit (ts : List PTerm) (body : List PPart) (k : Nat) (hk : k < ts.length) (h0 : looseF (ts.take k) body = none) (h1 : (ts[k].isVar && !boundV body ts[k].text) = true) : looseF ts body = some ts[k] := by
  have e : looseF ts body = looseF (ts.take (k + 1) ++ ts.drop (k + 1)) body := by rw [List.take_append_drop]
  rw [e, loose_append, loose_take ts body k hk, h0, h1]; simp
set_option maxRecDepth 100000 in
set_option maxHeartbeats 4000000 in
theorem rloose_any (ts : List PTerm) (vt : Value) (BT : Nat) (body : List PPart) (vb : Value) (vs : List Value) (B : Nat) (w : World) (ht : w.ownsRow BT 45 3 vt ts.length (termsV ts)) (h : PartsAt 45 47 B w vb body vs) (htl : ts.length ≤ 1073741824) (hl : body.length ≤ 1073741824) (hla : ∀ p ∈ body, p.atom.args.length ≤ 1073741824) :
    Calls Tryz.prog 42 #[vt, vb] w fun e w' => e = .returned (.int .i64 (looseI (looseF ts body))) ∧ w.grownBy w' none := by
  have HLA := hide hla
  have HL := hide hl
  have HA := hide h
  have HT := hide ht
  obtain ⟨aa, ca, hva⟩ := own_form h.own
  obtain ⟨at_, ct, hvt⟩ := own_form ht
  subst hva hvt
  clear h hla ht hl
  obtain ⟨N, HN⟩ : ∃ N, Hid (ts.length = N) := ⟨_, (rfl : _ = _)⟩
  rw [HN.out] at htl ⊢
  have HBD : Hid (∀ (x : List UInt8) (w' : World), w.grownBy w' none → Calls Tryz.prog 76 #[.slice aa body.length ca, .string (str x)] w' fun e w'' => e = .returned (.bool (boundV body x)) ∧ w'.grownBy w'' none) := fun x w' hg => rbound_any body _ vs B x w' (HA.out.kept hg (fun g e => by cases e)) HL.out HLA.out
  obtain ⟨NB, HNB⟩ : ∃ NB, Hid (body.length = NB) := ⟨_, (rfl : _ = _)⟩
  rw [HNB.out] at HBD ⊢
  go_enter Tryz.func42, Tryz.ntmps42
  go_wp2_with fail
  go_loopw [5, 6] (fun iv ov wr => ∃ k : Nat, k ≤ N ∧ iv = .int .i64 k ∧ Hid (looseF (ts.take k) body = none) ∧ Hid (w.grownBy wr none)) (fun iv _ _ => N - (intOf iv).toNat)
  case atStart => exact ⟨0, by omega, rfl, hide rfl, fr_refl _ _⟩
  case round =>
    obtain ⟨k, hk, rfl, HB, HG⟩ := hrel
    by_cases hlt : k < N
    · have hkr : k < ts.length := by have := HN.out; omega
      rcases own_terms HT.out with ⟨h0, h1⟩ | ⟨gt, ct, hvt, -, -, hct⟩
      · rw [h1] at hkr; simp at hkr
      cases hvt
      have HCT := hide (hct k hkr)
      have HST := hide (loose_take ts body k hkr)
      have HIT := hide (loose_hit ts body k hkr HB.out)
      clear hct
      generalize ts[k] = t at *
      have t1 := grown_cell HG.out HCT.out.2.1
      have HCL := hide (HBD.out t.text wr HG.out)
      obtain ⟨sx, HSX⟩ : ∃ sx, Hid (str t.text = sx) := ⟨_, (rfl : _ = _)⟩
      rw [HSX.out] at t1 HCL
      obtain ⟨ob, HOB⟩ : ∃ ob, Hid (boundV body t.text = ob) := ⟨_, (rfl : _ = _)⟩
      rw [HOB.out] at HCL HST HIT
      go_wp2_with fail
      refine HCL.out.mono ?_
      rintro e w2 ⟨rfl, hg2⟩
      have HG2 := hide (fr_both HG.out hg2)
      clear hg2 t1 HCL
      have t0 := grown_cell HG2.out HCT.out.1
      have t2 := grown_cell HG2.out HCT.out.2.2
      obtain ⟨iv, HIV⟩ : ∃ iv, Hid (t.isVar = iv) := ⟨_, (rfl : _ = _)⟩
      rw [HIV.out] at t0 HST HIT
      obtain ⟨pl, HPL⟩ : ∃ pl : Nat, Hid (t.place = pl) := ⟨_, (rfl : _ = _)⟩
      rw [HPL.out] at t2
      have HNX : Hid ((iv && !ob) = false → looseF (ts.take (k + 1)) body = none) := fun h => by rw [HST.out, h, HB.out]; rfl
      have HRT : Hid ((iv && !ob) = true → ((pl : Nat) : Int) = looseI (looseF ts body)) := fun h => by rw [HIT.out h, ← HPL.out]; rfl
      clear HST HIT HCT
      cases iv with
      | false =>
        have HN2 := hide (HNX.out rfl)
        clear HNX HRT
        go_wp2
        go_roundw
        case rel => exact ⟨k + 1, by omega, by go_num, HN2, HG2⟩
        case measure => simp [intOf]; omega
      | true =>
        cases ob with
        | true =>
          have HN2 := hide (HNX.out rfl)
          clear HNX HRT
          go_wp2
          go_roundw
          case rel => exact ⟨k + 1, by omega, by go_num, HN2, HG2⟩
          case measure => simp [intOf]; omega
        | false =>
          have HR2 := hide (HRT.out rfl)
          clear HNX HRT
          go_wp2
          go_ret
          exact ⟨ret_i64 HR2.out, HG2.out⟩
    · have HE : Hid (looseI (looseF ts body) = -1) := by
        have := HB.out
        rw [List.take_of_length_le (by have := HN.out; omega)] at this
        show _ = _
        rw [this]; rfl
      go_wp2
      go_ret
      exact ⟨ret_i64 HE.out.symm, HG.out⟩
end Go.Proofs.YtgllfcoafgphbaaGreatDoor

/-
  The document's partTerms, unsafePart and unsafe, walked.
-/
namespace Go.Proofs.YtgllfcoafgphbaaGreatDoor
open Go.ChangeShapes Go.WideShapes Go.ChangeAt Go.RowKit
set_option linter.unusedVariables false
set_option maxRecDepth 100000 in
set_option maxHeartbeats 4000000 in
theorem rpartTerms_any (p : PPart) (v : Value) (B : Nat) (w : World) (hv : w.ownsRow B 45 3 v p.atom.args.length (termsV p.atom.args)) :
    Calls Tryz.prog 77 #[.agg (partV p v).toArray] w fun e w' => (∃ u, e = .returned u ∧ w'.ownsRow 0 45 3 u (partTerms p).length (termsV (partTerms p))) ∧ w.grownBy w' none := by
  have HV := hide hv
  obtain ⟨va, vc, hvv⟩ := own_form hv
  subst hvv
  clear hv
  unfold partV
  obtain ⟨M, HM⟩ : ∃ M, Hid (p.atom.args.length = M) := ⟨_, (rfl : _ = _)⟩
  rw [HM.out]
  by_cases hk : p.kind < 2
  · have HP : Hid (partTerms p = p.atom.args) := by show _ = _; unfold partTerms; rw [if_pos hk]
    rw [HM.out] at HV
    have hkd : decide (((p.kind : Nat) : Int) < 2) = true := decide_eq_true (by omega)
    clear hk
    go_enter Tryz.func77, Tryz.ntmps77
    go_wp2
    go_ret
    rw [HP.out]
    refine ⟨⟨_, rfl, ?_⟩, fr_alloc _ _ _⟩
    rw [HM.out]
    exact own_lower (own_far HV.out (fr_alloc _ _ none) (by simp)) (Nat.zero_le _)
  · have HP : Hid (partTerms p = [p.left, p.right]) := by show _ = _; unfold partTerms; rw [if_neg hk]
    have hkd : decide (((p.kind : Nat) : Int) < 2) = false := decide_eq_false (by omega)
    clear hk HV
    go_enter Tryz.func77, Tryz.ntmps77
    go_wp2
    go_ret
    rw [HP.out]
    refine ⟨⟨.slice (some ⟨w.heap.size + 1, 0, none⟩) 2 2, rfl, ?_⟩, fr_both (fr_alloc _ _ _) (fr_alloc _ _ _)⟩
    generalize hw0 : World.alloc w _ = w0
    have hz : w0.heap.size = w.heap.size + 1 := by rw [← hw0]; simp
    rw [← hz]
    exact World.ownsRow_lit w0 _ 2 (Nat.zero_le _) (by unfold maxLen; omega) rfl
/-- of a body's parts of the kinds 1 to 4 -/
def upF (body qs : List PPart) : Option PTerm := looseF ((qs.filter (fun p => p.kind != 0)).flatMap partTerms) body
theorem up_take (body qs : List PPart) (k : Nat) (hk : k < qs.length) : upF body (qs.take (k + 1)) = (upF body (qs.take k)).or (if qs[k].kind = 0 then none else looseF (partTerms qs[k]) body) := by
  unfold upF
  rw [List.take_succ_eq_append_getElem hk, List.filter_append, List.flatMap_append, loose_append]
  congr 1
  by_cases h : qs[k].kind = 0
  · simp [h, looseF]
  · simp [h]
theorem up_hit (body qs : List PPart) (k : Nat) (hk : k < qs.length) (h0 : upF body (qs.take k) = none) (hz : qs[k].kind ≠ 0) (t : PTerm) (h1 : looseF (partTerms qs[k]) body = some t) : upF body qs = some t := by
  have e : upF body qs = (upF body (qs.take (k + 1))).or (upF body (qs.drop (k + 1))) := by
    unfold upF
    rw [← loose_append, ← List.flatMap_append, ← List.filter_append, List.take_append_drop]
  rw [e, up_take body qs k hk, h0, if_neg hz, h1]; simp
set_option maxRecDepth 100000 in
set_option maxHeartbeats 4000000 in
theorem runsafePart_any (body : List PPart) (vb : Value) (vs : List Value) (B : Nat) (w : World) (h : PartsAt 45 47 B w vb body vs) (hl : body.length ≤ 1073741824) (hla : ∀ p ∈ body, p.atom.args.length ≤ 1073741824) :
    Calls Tryz.prog 43 #[vb] w fun e w' => e = .returned (.int .i64 (looseI (upF body body))) ∧ w.grownBy w' none := by
  have HLA := hide hla
  have HL := hide hl
  have HA := hide h
  obtain ⟨aa, ca, hva⟩ := own_form h.own
  subst hva
  clear h hla
  obtain ⟨N, HN⟩ : ∃ N, Hid (body.length = N) := ⟨_, (rfl : _ = _)⟩
  have HLO : Hid (∀ (ts : List PTerm) (vt : Value) (w' : World), w.grownBy w' none → w'.ownsRow 0 45 3 vt ts.length (termsV ts) → ts.length ≤ 1073741824 → Calls Tryz.prog 42 #[vt, .slice aa N ca] w' fun e w'' => e = .returned (.int .i64 (looseI (looseF ts body))) ∧ w'.grownBy w'' none) := by
    intro ts vt w' hg ht htl
    have := rloose_any ts vt 0 body (.slice aa body.length ca) vs B w' ht (HA.out.kept hg (fun g e => by cases e)) htl HL.out HLA.out
    rw [HN.out] at this
    exact this
  rw [HN.out] at hl ⊢
  go_enter Tryz.func43, Tryz.ntmps43
  go_wp2_with fail
  go_loopw [3, 4] (fun iv ov wr => ∃ k : Nat, k ≤ N ∧ iv = .int .i64 k ∧ Hid (upF body (body.take k) = none) ∧ Hid (w.grownBy wr none)) (fun iv _ _ => N - (intOf iv).toNat)
  case atStart => exact ⟨0, by omega, rfl, hide rfl, fr_refl _ _⟩
  case round =>
    obtain ⟨k, hk, rfl, HB, HG⟩ := hrel
    by_cases hlt : k < N
    · have hkr : k < body.length := by have := HN.out; omega
      have hkv : k < vs.length := by have := HA.out.len; omega
      have hor := HA.out
      rcases own_parts hor with ⟨h0, h1⟩ | ⟨gr, cr, hvr, -, -, hcr, -⟩
      · rw [h1] at hkr; simp at hkr
      cases hvr
      have HCR := hide (hcr k body[k] vs[k] (List.getElem?_eq_getElem hkr) (List.getElem?_eq_getElem hkv))
      have HAR := hide (hor.args k body[k] vs[k] (List.getElem?_eq_getElem hkr) (List.getElem?_eq_getElem hkv))
      have HST := hide (up_take body body k hkr)
      have HIT := hide (up_hit body body k hkr HB.out)
      have HLK := hide (HLA.out _ (List.getElem_mem hkr))
      clear hcr hor
      generalize body[k] = p at *
      obtain ⟨xa, xc, hxx⟩ := own_form HAR.out
      rw [hxx] at HCR HAR
      clear hxx
      have HPT : Hid (Calls Tryz.prog 77 #[.agg (partV p (.slice xa p.atom.args.length xc)).toArray] wr fun e w' => (∃ u, e = .returned u ∧ w'.ownsRow 0 45 3 u (partTerms p).length (termsV (partTerms p))) ∧ wr.grownBy w' none) := rpartTerms_any p _ B wr (own_far HAR.out HG.out (by simp))
      have HPL : Hid ((partTerms p).length ≤ 1073741824) := by
        show _ ≤ _
        unfold partTerms
        split
        · exact HLK.out
        · simp
      have kp : ∀ (j : Nat) (x : Value), (partV p (.slice xa p.atom.args.length xc))[j]? = some x → wr.cell? ⟨gr, k * 10 + j, none⟩ = some x := fun j x hx => grown_cell HG.out (HCR.out j x hx)
      have d0 := kp 0 _ rfl
      have d1 := kp 1 _ rfl
      have d2 := kp 2 _ rfl
      have d3 := kp 3 _ rfl
      have d4 := kp 4 _ rfl
      have d5 := kp 5 _ rfl
      have d6 := kp 6 _ rfl
      have d7 := kp 7 _ rfl
      have d8 := kp 8 _ rfl
      have d9 := kp 9 _ rfl
      simp only [Nat.add_zero] at d0
      clear kp HCR
      by_cases h0 : p.kind = 0
      · have hb : (((p.kind : Nat) : Int) == 0) = true := by simp [h0]
        have HNX : Hid (upF body (body.take (k + 1)) = none) := by show _ = _; rw [HST.out, HB.out, if_pos h0]; rfl
        clear h0
        go_wp2
        go_roundw
        case rel => exact ⟨k + 1, by omega, by go_num, HNX, HG⟩
        case measure => simp [intOf]; omega
      · have hb : (((p.kind : Nat) : Int) == 0) = false := by rw [beq_eq_false_iff_ne]; omega
        have HK0 := hide h0
        clear h0
        go_wp2_with fail
        refine HPT.out.mono ?_
        rintro e w2 ⟨⟨u, rfl, hu⟩, hg2⟩
        have HU := hide hu
        obtain ⟨ua, uc, huu⟩ := own_form hu
        subst huu
        have HG2 := hide (fr_both HG.out hg2)
        clear hg2 hu d0 d1 d2 d3 d4 d5 d6 d7 d8 d9 HPT
        have HC2 := hide (HLO.out (partTerms p) _ w2 HG2.out HU.out HPL.out)
        obtain ⟨o, HO⟩ : ∃ o, Hid (looseF (partTerms p) body = o) := ⟨_, (rfl : _ = _)⟩
        rw [HO.out] at HC2 HST
        generalize (partTerms p).length = M at *
        go_wp2_with fail
        refine HC2.out.mono ?_
        rintro e w3 ⟨rfl, hg3⟩
        have HG3 := hide (fr_both HG2.out hg3)
        clear hg3 HC2
        cases o with
        | none =>
          have HNX : Hid (upF body (body.take (k + 1)) = none) := by show _ = _; rw [HST.out, HB.out, if_neg HK0.out]; rfl
          have hi : looseI none = -1 := rfl
          rw [hi]
          clear hi
          go_wp2
          go_roundw
          case rel => exact ⟨k + 1, by omega, by go_num, HNX, HG3⟩
          case measure => simp [intOf]; omega
        | some t =>
          have HR2 : Hid (((t.place : Nat) : Int) = looseI (upF body body)) := by show _ = _; rw [HIT.out HK0.out t HO.out]; rfl
          have hi : looseI (some t) = ((t.place : Nat) : Int) := rfl
          rw [hi]
          clear hi
          generalize t.place = pl at *
          go_wp2
          go_ret
          exact ⟨ret_i64 HR2.out, HG3.out⟩
    · have HE : Hid (looseI (upF body body) = -1) := by
        have := HB.out
        rw [List.take_of_length_le (by have := HN.out; omega)] at this
        show _ = _
        rw [this]; rfl
      go_wp2
      go_ret
      exact ⟨ret_i64 HE.out.symm, HG.out⟩
theorem safeR_or (r : PRule) : safeR r = (looseF r.head.args r.body).or (upF r.body r.body) := by unfold safeR wantsF upF; rw [loose_append]
theorem safe_take (rs : List PRule) (k : Nat) (hk : k < rs.length) : safeF (rs.take (k + 1)) = (safeF (rs.take k)).or (safeR rs[k]) := by
  unfold safeF
  rw [List.take_succ_eq_append_getElem hk, List.findSome?_append]
  simp
theorem safe_hit (rs : List PRule) (k : Nat) (hk : k < rs.length) (h0 : safeF (rs.take k) = none) (t : PTerm) (h1 : safeR rs[k] = some t) : safeF rs = some t := by
  have e : safeF rs = (safeF (rs.take (k + 1))).or (safeF (rs.drop (k + 1))) := by
    unfold safeF
    rw [← List.findSome?_append, List.take_append_drop]
  rw [e, safe_take rs k hk, h0, h1]; simp
theorem wfP_args {p : PPart} (h : WfP p) : p.atom.args.length ≤ 1073741824 := by
  rcases h with ⟨_, ha, _⟩ | ⟨_, _, ha, _⟩
  · have := ha.2.1; omega
  · rw [ha]; simp [noAtom]
set_option maxRecDepth 100000 in
set_option maxHeartbeats 4000000 in
theorem runsafe_any (rs : List PRule) (v : Value) (hs bs2 : List Value) (B : Nat) (w : World) (h : RulesAt 45 47 43 B w v rs hs bs2) (hl : rs.length ≤ 200) (hwf : ∀ r ∈ rs, WfR r) :
    Calls Tryz.prog 20 #[v] w fun e w' => e = .returned (.int .i64 (looseI (safeF rs))) ∧ w.grownBy w' none := by
  have HWF := hide hwf
  have HRA := hide h
  obtain ⟨va, vc, hv⟩ := own_form h.own
  subst hv
  clear h hwf
  obtain ⟨N, HN⟩ : ∃ N, Hid (rs.length = N) := ⟨_, (rfl : _ = _)⟩
  rw [HN.out] at hl ⊢
  go_enter Tryz.func20, Tryz.ntmps20
  go_wp2_with fail
  go_loopw [3, 4] (fun iv ov wr => ∃ k : Nat, k ≤ N ∧ iv = .int .i64 k ∧ Hid (safeF (rs.take k) = none) ∧ Hid (w.grownBy wr none)) (fun iv _ _ => N - (intOf iv).toNat)
  case atStart => exact ⟨0, by omega, rfl, hide rfl, fr_refl _ _⟩
  case round =>
    obtain ⟨k, hk, rfl, HB, HG⟩ := hrel
    by_cases hlt : k < N
    · have hkr : k < rs.length := by have := HN.out; omega
      have hkh : k < hs.length := by have := HRA.out.lh; omega
      have hkb : k < bs2.length := by have := HRA.out.lb; omega
      have hor := HRA.out
      rcases own_rules hor with ⟨h0, h1⟩ | ⟨gr, cr, hvr, -, -, hcr, -⟩
      · rw [h1] at hkr; simp at hkr
      cases hvr
      have HCR := hide (hcr k rs[k] hs[k] bs2[k] (List.getElem?_eq_getElem hkr) (List.getElem?_eq_getElem hkh) (List.getElem?_eq_getElem hkb))
      obtain ⟨us, hbd⟩ := hor.bodies k rs[k] bs2[k] (List.getElem?_eq_getElem hkr) (List.getElem?_eq_getElem hkb)
      have hhd := hor.heads k rs[k] hs[k] (List.getElem?_eq_getElem hkr) (List.getElem?_eq_getElem hkh)
      have HW := hide (HWF.out _ (List.getElem_mem hkr))
      have HST := hide (safe_take rs k hkr)
      have HIT := hide (safe_hit rs k hkr HB.out)
      obtain ⟨xa, xc, hxx⟩ := own_form hhd
      obtain ⟨ya, yc, hyy⟩ := own_form hbd.own
      rw [hxx, hyy] at HCR
      rw [hxx] at hhd
      rw [hyy] at hbd
      have HHD := hide hhd
      have HBD := hide hbd
      clear hcr hor hbd hhd hxx hyy
      generalize rs[k] = r at *
      rw [safeR_or] at HST HIT
      have HLA : Hid (∀ p ∈ r.body, p.atom.args.length ≤ 1073741824) := fun p hp => wfP_args (HW.out.2.2 p hp)
      have HLB : Hid (r.body.length ≤ 1073741824) := by have := HW.out.2.1; show _ ≤ _; omega
      have HLH : Hid (r.head.args.length ≤ 1073741824) := by have := HW.out.1.2.1; show _ ≤ _; omega
      have HC1 : Hid (∀ w', (∃ n, w' = wr.drewN n) → Calls Tryz.prog 42 #[.slice xa r.head.args.length xc, .slice ya r.body.length yc] w' fun e w'' => e = .returned (.int .i64 (looseI (looseF r.head.args r.body))) ∧ Hid (w.grownBy w'' none) ∧ w''.cell? ⟨gr, k * 4 + 1, none⟩ = some (.slice xa r.head.args.length xc) ∧ w''.cell? ⟨gr, k * 4 + 3, none⟩ = some (.slice ya r.body.length yc)) := by
        rintro w' ⟨n, rfl⟩
        have hg := fr_both HG.out (fr_draws wr n none)
        refine (rloose_any r.head.args _ B r.body _ us B _ (own_far HHD.out hg (by simp)) (HBD.out.kept hg (fun g e => by cases e)) HLH.out HLB.out HLA.out).mono ?_
        rintro e w'' ⟨rfl, hg2⟩
        have hg3 := fr_both hg hg2
        exact ⟨rfl, hg3, grown_cell hg3 (HCR.out 1 _ rfl), grown_cell hg3 (HCR.out 3 _ rfl)⟩
      have HC2 : Hid (∀ w', w.grownBy w' none → Calls Tryz.prog 43 #[.slice ya r.body.length yc] w' fun e w'' => e = .returned (.int .i64 (looseI (upF r.body r.body))) ∧ w'.grownBy w'' none) := fun w' hg => runsafePart_any r.body _ us B w' (HBD.out.kept hg (fun g e => by cases e)) HLB.out HLA.out
      obtain ⟨o1, HO1⟩ : ∃ o, Hid (looseF r.head.args r.body = o) := ⟨_, (rfl : _ = _)⟩
      obtain ⟨o2, HO2⟩ : ∃ o, Hid (upF r.body r.body = o) := ⟨_, (rfl : _ = _)⟩
      rw [HO1.out] at HC1 HST HIT
      rw [HO2.out] at HC2 HST HIT
      have kp : ∀ (w' : World), w.grownBy w' none → ∀ (j : Nat) (x : Value), (ruleV r (.slice xa r.head.args.length xc) (.slice ya r.body.length yc))[j]? = some x → w'.cell? ⟨gr, k * 4 + j, none⟩ = some x := fun w' hg j x hx => grown_cell hg (HCR.out j x hx)
      have d1 := kp wr HG.out 1 _ rfl
      have d3 := kp wr HG.out 3 _ rfl
      have HKP := hide kp
      clear kp HCR HHD HBD
      generalize r.head.args.length = M at *
      generalize r.body.length = L at *
      go_wp2_with fail
      go_region_held3 (fun w' => w'.cell? ⟨gr, k * 4 + 1, none⟩ = some (.slice xa M xc) ∧ w'.cell? ⟨gr, k * 4 + 3, none⟩ = some (.slice ya L yc)) (go_keep)
        (first | (go_at_call 42; refine (HC1.out _ ⟨_, rfl⟩).mono ?_; rintro e w2 ⟨rfl, HG2, k1, k3⟩))
      clear HC1 d1 d3 k1 k3
      cases o1 with
      | some t =>
        have HR2 : Hid (((t.place : Nat) : Int) = looseI (safeF rs)) := by show _ = _; rw [HIT.out t rfl]; rfl
        have hi : looseI (some t) = ((t.place : Nat) : Int) := rfl
        rw [hi]
        clear hi
        generalize t.place = pl at *
        go_wp2
        go_ret
        exact ⟨ret_i64 HR2.out, HG2.out⟩
      | none =>
        have hi : looseI none = -1 := rfl
        rw [hi]
        clear hi
        have d3 := HKP.out w2 HG2.out 3 _ rfl
        go_wp2_with fail
        refine (HC2.out _ HG2.out).mono ?_
        rintro e w3 ⟨rfl, hg3⟩
        have HG3 := hide (fr_both HG2.out hg3)
        clear hg3 HC2 d3
        cases o2 with
        | some t =>
          have HR2 : Hid (((t.place : Nat) : Int) = looseI (safeF rs)) := by show _ = _; rw [HIT.out t rfl]; rfl
          have hi : looseI (some t) = ((t.place : Nat) : Int) := rfl
          rw [hi]
          clear hi
          generalize t.place = pl at *
          go_wp2
          go_ret
          exact ⟨ret_i64 HR2.out, HG3.out⟩
        | none =>
          have HNX : Hid (safeF (rs.take (k + 1)) = none) := by show _ = _; rw [HST.out, HB.out]; rfl
          have hi : looseI none = -1 := rfl
          rw [hi]
          clear hi
          go_wp2
          go_roundw
          case rel => exact ⟨k + 1, by omega, by go_num, HNX, HG3⟩
          case measure => simp [intOf]; omega
    · have HE : Hid (looseI (safeF rs) = -1) := by
        have := HB.out
        rw [List.take_of_length_le (by have := HN.out; omega)] at this
        show _ = _
        rw [this]; rfl
      go_wp2
      go_ret
      exact ⟨ret_i64 HE.out.symm, HG.out⟩
end Go.Proofs.YtgllfcoafgphbaaGreatDoor

/-
  The document's atomsOf, walked.
-/
namespace Go.Proofs.YtgllfcoafgphbaaGreatDoor
open Go.ChangeShapes Go.WideShapes Go.ChangeAt Go.RowKit
set_option linter.unusedVariables false
def atomV (a : PAtom) (v : Value) : List Value := [.string (str a.name), v, .int .i64 (a.place : Nat)]
def atomsV : List PAtom → List Value → List Value
  | a :: l, v :: vs => atomV a v ++ atomsV l vs
  | _, _ => []
theorem atomsV_snoc (p : PAtom) (v : Value) : ∀ (ps : List PAtom) (vs : List Value), vs.length = ps.length → atomsV ps vs ++ atomV p v = atomsV (ps ++ [p]) (vs ++ [v]) := by
  intro ps
  induction ps with
  | nil => intro vs h; cases vs with
    | nil => simp [atomsV]
    | cons u us => simp at h
  | cons q ps ih => intro vs h; cases vs with
    | nil => simp at h
    | cons u us => simp [atomsV, ← ih us (by simpa using h)]
theorem atomsV_at : ∀ (ps : List PAtom) (vs : List Value) (k j : Nat) (p : PAtom) (v : Value), ps[k]? = some p → vs[k]? = some v → j < 3 → (atomsV ps vs)[k * 3 + j]? = (atomV p v)[j]? := by
  intro ps
  induction ps with
  | nil => intro vs k j p v h; simp at h
  | cons q ps ih =>
    intro vs k j p v h1 h2 hj
    cases vs with
    | nil => simp at h2
    | cons u vs =>
      cases k with
      | zero => simp at h1 h2; subst h1 h2; simp only [atomsV, Nat.zero_mul, Nat.zero_add]; rw [List.getElem?_append_left (by simp [atomV]; exact hj)]
      | succ k =>
        simp only [atomsV]
        rw [List.getElem?_append_right (by simp [atomV]; omega), ← ih vs k j p v (by simpa using h1) (by simpa using h2) hj]
        congr 1
        simp [atomV]; omega
/-- atoms in a row of their own, their terms where they lay -/
structure AtomsAt (tT tA : TypeId) (base bT : Nat) (w : World) (v : Value) (ps : List PAtom) (vs : List Value) : Prop where
  own : w.ownsRow base tA 3 v ps.length (atomsV ps vs)
  len : vs.length = ps.length
  args : ∀ (i : Nat) (p : PAtom) (u : Value), ps[i]? = some p → vs[i]? = some u → w.ownsRow bT tT 3 u p.args.length (termsV p.args)
theorem AtomsAt.nil (tT tA : TypeId) (base bT : Nat) (w : World) : AtomsAt tT tA base bT w (.slice none 0 0) [] [] := ⟨World.ownsRow_nil _ _ _ _, rfl, fun i p u h => by simp at h⟩
theorem AtomsAt.far {tT tA : TypeId} {base bT : Nat} {w w' : World} {v : Value} {ps : List PAtom} {vs : List Value} (h : AtomsAt tT tA base bT w v ps vs) (hg : w.grownBy w' none) : AtomsAt tT tA base bT w' v ps vs :=
  ⟨own_far h.own hg (by simp), h.len, fun i p u hp hu => own_far (h.args i p u hp hu) hg (by simp)⟩
/-- one atom more: the row turned, the terms did not -/
theorem AtomsAt.push {tT tA : TypeId} (ht : tT ≠ tA) {base bT : Nat} {w w4 : World} {v v4 u : Value} {ps : List PAtom} {vs : List Value} {p : PAtom} (h : AtomsAt tT tA base bT w v ps vs) (hu : w.ownsRow bT tT 3 u p.args.length (termsV p.args))
    (hg : w.grownBy w4 v.ownBlock) (hown : w4.ownsRow base tA 3 v4 (ps.length + 1) (atomsV ps vs ++ atomV p u)) : AtomsAt tT tA base bT w4 v4 (ps ++ [p]) (vs ++ [u]) := by
  have keep : ∀ (q : PAtom) (x : Value), w.ownsRow bT tT 3 x q.args.length (termsV q.args) → w4.ownsRow bT tT 3 x q.args.length (termsV q.args) := fun q x hx => own_far hx hg (kinds_ne hx h.own ht)
  refine ⟨?_, by simp [h.len], fun i q x hq hx => ?_⟩
  · rw [← atomsV_snoc p u ps vs h.len, List.length_append]; exact hown
  · by_cases hi : i < ps.length
    · rw [List.getElem?_append_left hi] at hq
      rw [List.getElem?_append_left (by rw [h.len]; exact hi)] at hx
      exact keep q x (h.args i q x hq hx)
    · rw [List.getElem?_append_right (by omega)] at hq
      rw [List.getElem?_append_right (by rw [h.len]; omega), h.len] at hx
      obtain ⟨k, hk⟩ : ∃ k, i - ps.length = k := ⟨_, rfl⟩
      rw [hk] at hq hx
      match k, hq, hx with
      | 0, hq, hx => simp at hq hx; subst hq hx; exact keep _ _ hu
      | k + 1, hq, _ => simp at hq
/-- where atoms lie -/
theorem own_atoms {tT tA : TypeId} {base bT : Nat} {w : World} {v : Value} {ps : List PAtom} {vs : List Value} (h : AtomsAt tT tA base bT w v ps vs) : (v = .slice none 0 0 ∧ ps = []) ∨ ∃ g cap, v = .slice (some ⟨g, 0, none⟩) ps.length cap ∧ base ≤ g ∧ g < w.heap.size ∧ ∀ k p u, ps[k]? = some p → vs[k]? = some u → ∀ (j : Nat) (x : Value), (atomV p u)[j]? = some x → w.cell? ⟨g, k * 3 + j, none⟩ = some x := by
  rcases h.own.2 with ⟨rfl, h0⟩ | ⟨g, cap, cur, rfl, hb, hg, rest⟩
  · exact Or.inl ⟨rfl, List.eq_nil_of_length_eq_zero h0⟩
  · refine Or.inr ⟨g, cap, rfl, hb, (Array.getElem?_eq_some_iff.1 hg).1, fun k p u hp hu j x hx => ?_⟩
    have hj : j < 3 := by
      rcases Nat.lt_or_ge j 3 with h | h
      · exact h
      · rw [List.getElem?_eq_none (by simp [atomV]; omega)] at hx; cases hx
    have := h.own.cells rfl (k * 3 + j) x (by rw [atomsV_at ps vs k j p u hp hu hj]; exact hx)
    rw [add_zero] at this; exact this
theorem atomsR_take (r : PRule) (k : Nat) (hk : k < r.body.length) : (r.head :: ((r.body.take (k + 1)).filter (fun p => decide (p.kind < 2))).map (·.atom)) = (r.head :: ((r.body.take k).filter (fun p => decide (p.kind < 2))).map (·.atom)) ++ (if r.body[k].kind < 2 then [r.body[k].atom] else []) := by
  rw [List.take_succ_eq_append_getElem hk, List.filter_append, List.map_append]
  by_cases h : r.body[k].kind < 2 <;> simp [h]
def atomZ3 : List Value := [.string { data := #[] }, .slice none 0 0, .int .i64 0]
theorem infoAtom3 : (Tryz.prog.info? 40).map (fun i => (i.zero, i.size, i.bytes)) = some (some (.agg atomZ3.toArray), 3, 48) := by kernel_rfl
/-- the atoms of a rule, as far as k parts -/
def atomsK (r : PRule) (k : Nat) : List PAtom := r.head :: ((r.body.take k).filter (fun p => decide (p.kind < 2))).map (·.atom)
theorem atomsK_len (r : PRule) (k : Nat) : (atomsK r k).length ≤ k + 1 := by
  unfold atomsK
  have h1 := List.length_filter_le (fun p : PPart => decide (p.kind < 2)) (r.body.take k)
  have h2 := List.length_take_le k r.body
  simp only [List.length_cons, List.length_map]; omega
theorem atomsK_all (r : PRule) (k : Nat) (hk : r.body.length ≤ k) : atomsK r k = atomsR r := by unfold atomsK atomsR bodyAtoms; rw [List.take_of_length_le hk]
set_option maxRecDepth 100000 in
set_option maxHeartbeats 4000000 in
theorem ratomsOf_any (r : PRule) (vh vb : Value) (us : List Value) (B : Nat) (w : World) (hh : w.ownsRow B 45 3 vh r.head.args.length (termsV r.head.args)) (hb : PartsAt 45 47 B w vb r.body us) (hl : r.body.length ≤ 12) :
    Calls Tryz.prog 41 #[.agg (ruleV r vh vb).toArray] w fun e w' => (∃ v vs, e = .returned v ∧ AtomsAt 45 40 w.heap.size B w' v (atomsR r) vs) ∧ w.grownBy w' none := by
  obtain ⟨i0, hi0, hz0, hz1, hz2⟩ := info_parts infoAtom3
  have HH := hide hh
  have HA := hide hb
  obtain ⟨xa, xc, hxx⟩ := own_form hh
  obtain ⟨aa, ca, hva⟩ := own_form hb.own
  subst hxx hva
  clear hh hb
  unfold ruleV
  obtain ⟨N, HN⟩ : ∃ N, Hid (r.body.length = N) := ⟨_, (rfl : _ = _)⟩
  obtain ⟨M, HM⟩ : ∃ M, Hid (r.head.args.length = M) := ⟨_, (rfl : _ = _)⟩
  rw [HN.out] at hl ⊢
  rw [HM.out] at HH ⊢
  go_enter Tryz.func41, Tryz.ntmps41
  go_wp2_with fail
  generalize hw1 : World.alloc (World.alloc _ _) _ = w1
  have HG1 : Hid (w.grownBy w1 none) := by rw [← hw1]; exact fr_both (fr_alloc _ _ _) (fr_alloc _ _ _)
  have HC1 : Hid (w1.cell? ⟨w.heap.size, 3, none⟩ = some (.slice aa N ca)) := by show _ = _; rw [← hw1]; simp
  have HO1 : Hid (AtomsAt 45 40 (w.heap.size + 1) B w1 (.slice (some ⟨w.heap.size + 1, 0, none⟩) 1 1) [r.head] [.slice xa M xc]) := by
    refine ⟨?_, rfl, fun i q u hq hu => ?_⟩
    · rw [← hw1]
      generalize hw0 : World.alloc w _ = w0
      have hz : w0.heap.size = w.heap.size + 1 := by rw [← hw0]; simp
      rw [← hz]
      exact World.ownsRow_lit w0 _ 1 (Nat.le_refl _) (by unfold maxLen; omega) rfl
    · match i, hq, hu with
      | 0, hq, hu =>
        simp at hq hu
        subst hq hu
        rw [HM.out]
        exact own_far HH.out HG1.out (by simp)
      | i + 1, hq, _ => simp at hq
  clear hw1 HH
  go_loopw [3, 4] (fun lv iv wr => ∃ (k : Nat) (ps : List PAtom) (vs : List Value), k ≤ N ∧ iv = .int .i64 k ∧ ps.length ≤ k + 1 ∧ Hid (ps = atomsK r k) ∧ Hid (AtomsAt 45 40 (w.heap.size + 1) B wr lv ps vs) ∧ Hid (wr.cell? ⟨w.heap.size, 3, none⟩ = some (.slice aa N ca)) ∧ Hid (w.grownBy wr none)) (fun _ iv _ => N - (intOf iv).toNat)
  case atStart => exact ⟨0, [r.head], [.slice xa M xc], by omega, rfl, by simp, hide (by simp [atomsK]), HO1, HC1, HG1⟩
  case round =>
    clear HO1 HC1 HG1
    obtain ⟨k, ps, vs, hk, rfl, hpl, HPS, HO, HC, HG⟩ := hrel
    obtain ⟨la, lc, hlv⟩ := own_form HO.out.own
    subst hlv
    have c3 := HC.out
    by_cases hlt : k < N
    · have hkr : k < r.body.length := by have := HN.out; omega
      have hkv : k < us.length := by have := HA.out.len; omega
      have hor := HA.out
      rcases own_parts hor with ⟨h0, h1⟩ | ⟨gr, cr, hvr, -, -, hcr, -⟩
      · rw [h1] at hkr; simp at hkr
      cases hvr
      have HCR := hide (hcr k r.body[k] us[k] (List.getElem?_eq_getElem hkr) (List.getElem?_eq_getElem hkv))
      have HAR := hide (hor.args k r.body[k] us[k] (List.getElem?_eq_getElem hkr) (List.getElem?_eq_getElem hkv))
      have HST := hide (atomsR_take r k hkr)
      clear hcr hor
      generalize r.body[k] = p at *
      obtain ⟨ya, yc, hxx⟩ := own_form HAR.out
      rw [hxx] at HCR HAR
      clear hxx
      have kp : ∀ (j : Nat) (x : Value), (partV p (.slice ya p.atom.args.length yc))[j]? = some x → wr.cell? ⟨gr, k * 10 + j, none⟩ = some x := fun j x hx => grown_cell HG.out (HCR.out j x hx)
      have d0 := kp 0 _ rfl
      have d1 := kp 1 _ rfl
      have d2 := kp 2 _ rfl
      have d3 := kp 3 _ rfl
      simp only [Nat.add_zero] at d0
      clear kp HCR
      obtain ⟨n1, HN1⟩ : ∃ n1, Hid (str p.atom.name = n1) := ⟨_, (rfl : _ = _)⟩
      obtain ⟨na, HNA⟩ : ∃ na, Hid (p.atom.args.length = na) := ⟨_, (rfl : _ = _)⟩
      rw [HN1.out] at d1
      rw [HNA.out] at d2 HAR
      by_cases h0 : p.kind < 2
      · have hb : decide (((p.kind : Nat) : Int) < 2) = true := decide_eq_true (by omega)
        have HPN : Hid (ps ++ [p.atom] = atomsK r (k + 1)) := by show _ = _; unfold atomsK; rw [HST.out, HPS.out, if_pos h0]; rfl
        clear h0 HST
        have hwl : w.heap.size ≤ wr.heap.size := HG.out.size
        go_wp2_with (at_builtin; refine wpList_append_own _ rfl _ _ 92 rfl (w.heap.size + 1) 40 i0 (.agg atomZ3.toArray) 3 48 Tryz.underlying92 hi0 hz0 hz1 hz2 rfl (by decide) _ _ _ rfl (HO.out.own.alloc _) ⟨wr.heap.size, 0, none⟩ 1 1 [.string n1, .slice ya na yc, .int .i64 (p.atom.place : Nat)] rfl rfl ?c1 ?c2 ?c3 ?c4 ?c5 ?_)
        case c1 =>
          intro j' u hj'
          have e : (⟨wr.heap.size, 0, none⟩ : Addr).add j' = ⟨wr.heap.size, j', none⟩ := by unfold Addr.add; split <;> simp_all
          rw [e]
          rw [World.cell?_alloc_at _ _ _ _ (by simp)]
          simpa using hj'
        case c2 => intro u hu; simp at hu; rcases hu with rfl | rfl | rfl <;> rfl
        case c3 => unfold maxLen; omega
        case c4 => omega
        case c5 => simp; omega
        intro v4 w4 hown4 hg4 _
        obtain ⟨a4, p4, rfl⟩ := own_form hown4
        have HG4 : Hid (w.grownBy w4 none) := fr_own (fr_both HG.out (fr_alloc _ _ _)) (HO.out.own.alloc _) (by omega) hg4
        have HC4 : Hid (w4.cell? ⟨w.heap.size, 3, none⟩ = some (.slice (some ⟨gr, 0, none⟩) N ca)) := by
          have hb := World.block_lt_of_cell? wr ⟨w.heap.size, 3, none⟩ HC.out
          refine (World.cell?_of_block ?_).trans HC.out
          rw [hg4.block _ (by simp; simp at hb; omega) (own_ne HO.out.own (k := w.heap.size) (by omega)), Below.heap_alloc _ _ _ hb]
        have HO4 : Hid (AtomsAt 45 40 (w.heap.size + 1) B w4 (.slice a4 (ps.length + 1) p4) (ps ++ [p.atom]) (vs ++ [.slice ya na yc])) := by
          refine (HO.out.far (fr_alloc _ _ none)).push (by decide) (by rw [HNA.out]; exact own_far HAR.out (fr_both HG.out (fr_alloc _ _ none)) (by simp)) hg4 ?_
          unfold atomV
          rw [HN1.out]
          exact hown4
        clear hown4 hg4 HO HG HC HAR d0 d1 d2 d3 c3
        go_wp2
        go_roundw
        case rel => exact ⟨k + 1, ps ++ [p.atom], vs ++ [.slice ya na yc], by omega, by go_num, by simp; omega, HPN, (by have h := HO4; exact h), HC4, HG4⟩
        case measure => simp [intOf]; omega
      · have hb : decide (((p.kind : Nat) : Int) < 2) = false := decide_eq_false (by omega)
        have HPN : Hid (ps = atomsK r (k + 1)) := by show _ = _; unfold atomsK; rw [HST.out, HPS.out, if_neg h0, List.append_nil]; rfl
        clear h0 HST
        go_wp2
        go_roundw
        case rel => exact ⟨k + 1, ps, vs, by omega, by go_num, by omega, HPN, HO, HC, HG⟩
        case measure => simp [intOf]; omega
    · have HE : Hid (ps = atomsR r) := by show _ = _; rw [HPS.out]; exact atomsK_all r k (by have := HN.out; omega)
      go_wp2
      go_ret
      rw [← HE.out]
      exact ⟨⟨_, vs, rfl, own_lower HO.out.own (Nat.le_succ _), HO.out.len, HO.out.args⟩, HG.out⟩
end Go.Proofs.YtgllfcoafgphbaaGreatDoor
