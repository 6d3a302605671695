/-
  The program's words.Build, walked.
-/
import Derived.Test.YtnnldpccagajbaaDoorWordsProg
namespace Go.Proofs.YtnnldpccagajbaaDoor
open Go.ChangeShapes Go.WideShapes Go.ChangeAt Go.RowKit
set_option linter.unusedVariables false
theorem built_tuple {l : List (List UInt8)} {t : List UInt8} {x i : Nat} (h : build l = (t, x, i)) : built (build l) = .tuple #[.string (str t), .int .i64 (x : Nat), .int .i64 (i : Nat)] := by rw [h]; rfl
theorem Strs.drewN' {w : World} {v : Value} {l : List (List UInt8)} (h : Strs w v l) (n : Nat) : Strs (w.drewN n) v l := h.drewN n
set_option maxRecDepth 100000 in
set_option maxHeartbeats 2000000 in
theorem build_said : BuildSaid := by
  intro v l w h hl
  have HS : Hid (Strs w v l) := h
  obtain ⟨a, cap, rfl, h⟩ := h
  rcases h with ⟨rfl, _⟩ | ⟨b, off, rfl, hc⟩
  · go_enter Tryd.func25, Tryd.ntmps25
    go_wp2
    refine wp_loop_rounds 1 ?_
    rw [rounds_succ]
    go_wp2_with fail
    refine (write_any _ [] _ HS.out (by simp) (by simp)).mono ?_
    rintro e w1 ⟨rfl, hb1⟩
    go_wp2
    go_ret3
    exact ⟨by rw [built_tuple (show build [] = (vb 0 ++ enc [] [], 0, 0) from build_good [] rfl)]; rfl, hb1⟩
  · have HC : Hid (∀ (i : Nat) (x : List UInt8), l[i]? = some x → w.cell? ⟨b, off + i, none⟩ = some (.string (str x))) := hc
    clear hc
    go_enter Tryd.func25, Tryd.ntmps25
    go_wp2
    go_loopw [9] (fun i wr => ∃ k n : Nat, k ≤ l.length ∧ i = .int .i64 k ∧ wr = w.drewN n ∧ Hid (∃ out, build l = bld k (prev l k) out (l.drop k))) (fun i _ => l.length - (intOf i).toNat)
    case atStart => exact ⟨0, 0, by omega, rfl, rfl, _, rfl⟩
    case round =>
      obtain ⟨k, n, hk, rfl, rfl, HU⟩ := hrel
      by_cases hlt : k < l.length
      · have c1 := HC.out k l[k] (get_at hlt)
        obtain ⟨x, HX⟩ : ∃ x, Hid (x = l[k]) := ⟨l[k], rfl⟩
        rw [← HX.out] at c1
        have HU2 : Hid (∃ out, build l = bld k (prev l k) out (x :: l.drop (k + 1))) := by
          obtain ⟨out, ho⟩ := HU.out
          exact ⟨out, by rw [ho, drop_row l k hlt, HX.out]⟩
        obtain ⟨sx, HSX⟩ : ∃ sx, Hid (sx = str x) := ⟨str x, rfl⟩
        have hsz : sx.size = x.length := by rw [HSX.out, str_size]
        rw [← HSX.out] at c1
        by_cases h200 : 200 < x.length
        · have h200' : 200 < sx.size := by omega
          have HE : Hid (build l = ([], 1, k)) := by
            obtain ⟨out, ho⟩ := HU2.out
            show _ = _; rw [ho, bld_long _ _ _ _ _ h200]
          clear hsz
          go_wp2
          go_ret3
          exact ⟨by rw [HE.out]; rfl, below_drewN (Below.refl _ _) _⟩
        · have h200' : sx.size ≤ 200 := by omega
          clear hsz
          by_cases hk0 : k = 0
          · have hkz : (k : Int) ≤ 0 := by omega
            have HU3 : Hid (∃ out, build l = bld (k + 1) (prev l (k + 1)) out (l.drop (k + 1))) := by
              obtain ⟨out, ho⟩ := HU2.out
              exact ⟨_, by rw [ho, bld_next _ _ _ _ _ (by omega) (by rw [hk0]; rfl), prev_succ l k hlt, HX.out]⟩
            clear hk0
            go_wp2
            go_roundw
            case rel => exact ⟨k + 1, _, by omega, by go_num, rfl, HU3⟩
            case measure => simp [intOf]; omega
          · have hkp : 0 < k := by omega
            have hkp' : (0 : Int) < (k : Int) := by omega
            have c0 : w.cell? ⟨b, off + (k - 1), none⟩ = some (.string (str l[k - 1])) := HC.out (k - 1) l[k - 1] (get_at (by omega))
            obtain ⟨q, HQ⟩ : ∃ q, Hid (prev l k = some q ∧ str l[k - 1] = str q) := ⟨l[k - 1], by simp [prev, hk0, get_at (show k - 1 < l.length by omega)], rfl⟩
            rw [HQ.out.2] at c0
            obtain ⟨sp, HSP⟩ : ∃ sp, Hid (sp = str q) := ⟨str q, rfl⟩
            rw [← HSP.out] at c0
            by_cases hf : behind q x = true
            · have hle : (Op.bytesLess sx.toList sp.toList || sx.toList == sp.toList) = false := by
                rw [HSX.out, HSP.out, toList_str, toList_str, leq_not, hf]; rfl
              have HU3 : Hid (∃ out, build l = bld (k + 1) (prev l (k + 1)) out (l.drop (k + 1))) := by
                obtain ⟨out, ho⟩ := HU2.out
                exact ⟨_, by rw [ho, bld_next _ _ _ _ _ (by omega) (by rw [HQ.out.1]; exact hf), prev_succ l k hlt, HX.out]⟩
              go_wp2
              go_roundw
              case rel => exact ⟨k + 1, _, by omega, by go_num, rfl, HU3⟩
              case measure => simp [intOf]; omega
            · have hf' : behind q x = false := by simpa using hf
              have hle : (Op.bytesLess sx.toList sp.toList || sx.toList == sp.toList) = true := by
                rw [HSX.out, HSP.out, toList_str, toList_str, leq_not, hf']; rfl
              have HE : Hid (build l = ([], 6, k)) := by
                obtain ⟨out, ho⟩ := HU2.out
                show _ = _; rw [ho, bld_order _ _ _ _ _ (by omega) (by rw [HQ.out.1]; exact hf')]
              go_wp2
              go_ret3
              refine ⟨by rw [HE.out]; rfl, ?_⟩
              exact below_drewN (Below.refl _ _) _
      · have HG : Hid (build l = (vb l.length ++ enc [] l, 0, 0) ∧ ∀ t ∈ l, t.length ≤ 200) := by
          obtain ⟨out, ho⟩ := HU.out
          rw [List.drop_of_length_le (by omega)] at ho
          have hok : good none l = true := (build_ok l).1 (by rw [ho]; rfl)
          exact ⟨build_good l hok, good_len l none hok⟩
        go_wp2_with fail
        refine (write_any _ l _ (HS.out.drewN n) hl HG.out.2).mono ?_
        rintro e w1 ⟨rfl, hb1⟩
        go_wp2
        go_ret3
        exact ⟨by rw [built_tuple HG.out.1]; rfl, (below_drewN (Below.refl _ _) _).trans hb1⟩
end Go.Proofs.YtnnldpccagajbaaDoor
