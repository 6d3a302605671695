/-
  The document's joined and Join, walked.
-/
import Derived.Test.YtaeloanlllaphaaDoorRefPick
namespace Go.Proofs.YtaeloanlllaphaaDoor
open Go.ChangeShapes Go.WideShapes Go.ChangeAt Go.RowKit
set_option linter.unusedVariables false
set_option maxRecDepth 100000 in
set_option maxHeartbeats 600000 in
theorem joined_any (va vb vo : Value) (ra rb : List (List UInt8)) (on : List (Int × Int)) (w : World) (ha : Strs w va ra) (hb : Strs w vb rb) (ho : Prs w vo on) (hla : ra.length ≤ 1099511627776) (hlb : rb.length ≤ 1099511627776) (hol : on.length ≤ 1073741824) :
    Calls Tryd.prog 33 #[va, vb, vo] w fun e w' => e = .returned (.bool (goes ra rb on)) ∧ ∃ n, w' = w.drewN n := by
  obtain ⟨aa, ca, rfl, hca⟩ := strs_cell ha
  obtain ⟨ab, cb, rfl, hcb⟩ := strs_cell hb
  obtain ⟨ao, co, rfl, hoz, hoc⟩ := ho
  have HCA : Hid (∀ k (hk : k < ra.length), ∃ b off, aa = some ⟨b, off, none⟩ ∧ w.cell? ⟨b, off + k, none⟩ = some (.string (str ra[k])) ∧ b < w.heap.size) := hca
  have HCB : Hid (∀ k (hk : k < rb.length), ∃ b off, ab = some ⟨b, off, none⟩ ∧ w.cell? ⟨b, off + k, none⟩ = some (.string (str rb[k])) ∧ b < w.heap.size) := hcb
  have HOC : Hid (∀ k (hk : k < on.length), ∃ b off, ao = some ⟨b, off, none⟩ ∧ w.cell? ⟨b, off + k * 2, none⟩ = some (.int .i64 on[k].1) ∧ w.cell? ⟨b, off + k * 2 + 1, none⟩ = some (.int .i64 on[k].2) ∧ b < w.heap.size) := hoc
  have HOZ : Hid (∀ z ∈ on, (-9223372036854775808 ≤ z.1 ∧ z.1 ≤ 9223372036854775807) ∧ -9223372036854775808 ≤ z.2 ∧ z.2 ≤ 9223372036854775807) := hoz
  clear ha hb hca hcb hoc hoz
  go_enter Tryd.func33, Tryd.ntmps33
  go_wp2
  go_loopw [7] (fun iv wr => ∃ k n : Nat, k ≤ on.length ∧ iv = .int .i64 k ∧ wr = w.drewN n ∧ Hid (goes ra rb on = goes ra rb (on.drop k))) (fun iv _ => on.length - (intOf iv).toNat)
  case atStart => exact ⟨0, 0, by omega, rfl, rfl, rfl⟩
  case round =>
    obtain ⟨k, n, hk, rfl, rfl, HG⟩ := hrel
    by_cases hlt : k < on.length
    · obtain ⟨ob, oo, rfl, o0, o1, _⟩ := HOC.out k hlt
      have hz := HOZ.out _ (List.getElem_mem hlt)
      have HN : Hid (goes ra rb on = ((goodC ra on[k].1 && goodC rb on[k].2 && (atC ra on[k].1 == atC rb on[k].2)) && goes ra rb (on.drop (k + 1)))) := by
        show _ = _; rw [HG.out, List.drop_eq_getElem_cons hlt]; rfl
      obtain ⟨x, HX⟩ : ∃ x : Int, Hid (x = on[k].1) := ⟨on[k].1, (rfl : on[k].1 = _)⟩
      obtain ⟨y, HY⟩ : ∃ y : Int, Hid (y = on[k].2) := ⟨on[k].2, (rfl : on[k].2 = _)⟩
      rw [← HX.out] at o0 hz HN
      rw [← HY.out] at o1 hz HN
      obtain ⟨w0, HW0⟩ : ∃ w0, Hid (w0 = w.drewN n) := ⟨_, rfl⟩
      have q0 : w0.cell? ⟨ob, oo + k * 2, none⟩ = some (.int .i64 x) := by rw [HW0.out]; exact o0
      have q1 : w0.cell? ⟨ob, oo + k * 2 + 1, none⟩ = some (.int .i64 y) := by rw [HW0.out]; exact o1
      rw [← HW0.out]
      clear o0 o1
      by_cases hx : x < 0
      · have HE : Hid (goes ra rb on = false) := by
          show _ = _
          have : goodC ra x = false := by simp [goodC]; omega
          rw [HN.out, this]; simp
        go_wp2
        go_quiet (fail)
        go_wp2
        go_ret
        exact ⟨ret_bool HE.out.symm, _, by rw [HW0.out, World.drewN_drewN]⟩
      · have hxd : decide (x < 0) = false := by simp; omega
        by_cases hy : y < 0
        · have HE : Hid (goes ra rb on = false) := by
            show _ = _
            have : goodC rb y = false := by simp [goodC]; omega
            rw [HN.out, this]; simp
          go_wp2
          go_big_quiet (fail)
          go_wp2
          go_ret
          exact ⟨ret_bool HE.out.symm, _, by rw [HW0.out, World.drewN_drewN]⟩
        · have hyd : decide (y < 0) = false := by simp; omega
          by_cases hxl : (ra.length : Int) ≤ x
          · have HE : Hid (goes ra rb on = false) := by
              show _ = _
              have : goodC ra x = false := by simp [goodC]; omega
              rw [HN.out, this]; simp
            go_wp2
            go_big_quiet (fail)
            go_wp2
            go_ret
            exact ⟨ret_bool HE.out.symm, _, by rw [HW0.out, World.drewN_drewN]⟩
          · have hxe : decide ((ra.length : Int) ≤ x) = false := by simp; omega
            by_cases hyl : (rb.length : Int) ≤ y
            · have HE : Hid (goes ra rb on = false) := by
                show _ = _
                have : goodC rb y = false := by simp [goodC]; omega
                rw [HN.out, this]; simp
              go_wp2
              go_big_quiet (fail)
              go_wp2
              go_ret
              exact ⟨ret_bool HE.out.symm, _, by rw [HW0.out, World.drewN_drewN]⟩
            · have hye : decide ((rb.length : Int) ≤ y) = false := by simp; omega
              obtain ⟨mx, rfl⟩ := Int.eq_ofNat_of_zero_le (by omega : 0 ≤ x)
              obtain ⟨my, rfl⟩ := Int.eq_ofNat_of_zero_le (by omega : 0 ≤ y)
              have hxl2 : mx < ra.length := by omega
              have hyl2 : my < rb.length := by omega
              have hxe2 : decide (ra.length ≤ mx) = false := by simp; omega
              have hye2 : decide (rb.length ≤ my) = false := by simp; omega
              obtain ⟨pb, po, rfl, p0, _⟩ := HCA.out mx hxl2
              obtain ⟨sb, so, rfl, s0, _⟩ := HCB.out my hyl2
              have g1 : goodC ra (mx : Int) = true := goodC_true (by omega) (by omega)
              have g2 : goodC rb (my : Int) = true := goodC_true (by omega) (by omega)
              have e1 : atC ra (mx : Int) = ra[mx] := by unfold atC; simp [List.getD, List.getElem?_eq_getElem hxl2]
              have e2 : atC rb (my : Int) = rb[my] := by unfold atC; simp [List.getD, List.getElem?_eq_getElem hyl2]
              have p1 : w0.cell? ⟨pb, po + mx, none⟩ = some (.string (str ra[mx])) := by rw [HW0.out]; exact p0
              have s1 : w0.cell? ⟨sb, so + my, none⟩ = some (.string (str rb[my])) := by rw [HW0.out]; exact s0
              clear p0 s0
              by_cases he : ra[mx] = rb[my]
              · have hs : ((str ra[mx]).toList == (str rb[my]).toList) = true := by rw [he]; simp
                have HG2 : Hid (goes ra rb on = goes ra rb (on.drop (k + 1))) := by show _ = _; rw [HN.out, g1, g2, e1, e2, he]; simp
                clear he g1 g2 e1 e2
                generalize str ra[mx] = sa at *
                generalize str rb[my] = sb2 at *
                go_wp2
                go_big_quiet (fail)
                go_wp2
                go_roundw
                case rel => exact ⟨k + 1, _, by omega, by go_num, by rw [HW0.out, World.drewN_drewN], HG2⟩
                case measure => simp [intOf]; omega
              · have hs : ((str ra[mx]).toList == (str rb[my]).toList) = false := by rw [toList_str, toList_str]; simp [he]
                have HE : Hid (goes ra rb on = false) := by
                  show _ = _
                  have : (atC ra (mx : Int) == atC rb (my : Int)) = false := by rw [e1, e2, beq_eq_false_iff_ne]; exact he
                  rw [HN.out, this]; simp
                clear he g1 g2 e1 e2
                generalize str ra[mx] = sa at *
                generalize str rb[my] = sb2 at *
                go_wp2
                go_big_quiet (fail)
                go_wp2
                go_ret
                exact ⟨ret_bool HE.out.symm, _, by rw [HW0.out, World.drewN_drewN]⟩
    · have HE : Hid (goes ra rb on = true) := by show _ = _; rw [HG.out, List.drop_of_length_le (by omega)]; rfl
      go_wp2
      go_ret
      exact ⟨ret_bool HE.out.symm, _, rfl⟩
end Go.Proofs.YtaeloanlllaphaaDoor
