/-
  The program's lexer: a STRING.
-/
import Derived.Test.YtoelacloghkooaaDoorPrWords
namespace Go.Proofs.YtoelacloghkooaaDoor
open Go.ChangeShapes Go.WideShapes Go.ChangeAt Go.RowKit
set_option linter.unusedVariables false
theorem starts_get (s : ByteArray) (k : Nat) (h : k < s.size) (c : UInt8) : starts s.data.toList k [c] = decide (s[k].toNat = c.toNat) := by
  rw [starts_one, at0_get s k h, Bool.eq_iff_iff]
  simp only [decide_eq_true_eq]
  exact ⟨fun g => by rw [g.2], fun g => ⟨h, UInt8.toNat_inj.1 g⟩⟩
theorem starts_past (s : ByteArray) (k : Nat) (h : s.size ≤ k) (c : UInt8) : starts s.data.toList k [c] = false := by
  rw [starts_one]; simp; omega
/-- what one byte of a STRING, or two, are -/
def QByte (L T M : Addr) (b : Nat) (s : ByteArray) (k : Nat) (en : Ending) (w' : World) : Prop :=
  (∃ (c : UInt8) (k' : Nat), k ≤ k' ∧ k' < s.size ∧ k' ≤ k + 1 ∧ en = .returned (.tuple #[.int .u8 (c.toNat : Int), .nilIface]) ∧ Rd w' b s (k' : Nat) ∧ ∀ acc, strGo (s.data.toList.drop k) k acc = strGo (s.data.toList.drop (k' + 1)) (k' + 1) (acc ++ [c])) ∨
  (∃ x, en = .returned (.tuple #[.int .u8 0, errV L T M 2 x]) ∧ ∀ acc, strGo (s.data.toList.drop k) k acc = .error (2, x))
set_option maxRecDepth 100000 in
set_option maxHeartbeats 4000000 in
theorem pqbyte_any (b : Nat) (s : ByteArray) (k : Nat) (L T M : Addr) (w : World) (h : Rd w b s k) (hE : Errs w L T M) (hb : gTop ≤ b) (hk : k < s.size) (h34 : s[k].toNat ≠ 34) (hs : s.size ≤ 1073741824) :
    Calls Tryd.prog 82 #[.pointer (some ⟨b, 0, none⟩)] w fun en w' => QByte L T M b s k en w' ∧ RFr w w' b := by
  have HR := hide h
  have HE := hide hE
  have HB10 := hide (pbegins_any b s (str [10]) k w h (by omega) hs)
  rw [data_str, starts_get s k hk] at HB10
  clear h hE
  go_enter Tryd.func82, Tryd.ntmps82
  go_wp2_with fail
  refine HB10.out.mono ?_
  rintro e w1 ⟨rfl, n, rfl⟩
  have HR1 : Hid (Rd (w.drewN n) b s k) := HR.out.drewN _
  have HE1 : Hid (Errs (w.drewN n) L T M) := HE.out.drewN _
  have HF1 : Hid (RFr w (w.drewN n) b) := RFr.draws _ _ _
  generalize w.drewN n = w1 at *
  have g1 := HE1.out.gt
  have hc := byte_le s[k]
  by_cases h10 : s[k].toNat = 10
  · rw [show decide (s[k].toNat = (10 : UInt8).toNat) = true from by simp [h10]]
    have HS := hide (fun acc => strGo_line s k hk h10 acc)
    clear h10 h34
    go_wp2_with fail
    refine (pfail_any b s k T _ HR1.out).mono ?_
    rintro e w2 ⟨rfl, rfl⟩
    go_wp2
    go_ret2
    exact ⟨Or.inr ⟨k, rfl, HS.out⟩, HF1.out⟩
  · rw [show decide (s[k].toNat = (10 : UInt8).toNat) = false from by simp [h10]]
    go_wp2_with fail
    refine (pbegins_any b s (str [92]) k _ HR1.out (by omega) hs).mono ?_
    rintro e w2 ⟨rfl, n2, rfl⟩
    rw [data_str, starts_get s k hk]
    have HR2 : Hid (Rd (w1.drewN n2) b s k) := HR1.out.drewN _
    have HE2 : Hid (Errs (w1.drewN n2) L T M) := HE1.out.drewN _
    have HF2 : Hid (RFr w (w1.drewN n2) b) := HF1.out.trans (RFr.draws _ _ _)
    generalize w1.drewN n2 = w2 at *
    obtain ⟨c0, c1, f1⟩ := HR2.out
    by_cases h92 : s[k].toNat = 92
    · rw [show decide (s[k].toNat = (92 : UInt8).toNat) = true from by simp [h92]]
      obtain ⟨m, HM⟩ : ∃ m, Hid (m = k + 1) := ⟨_, (rfl : _ = _)⟩
      have hm1 : k < m := by have := HM.out; omega
      have hm2 : m ≤ k + 1 := by have := HM.out; omega
      have HESC : Hid (∀ acc, strGo (s.data.toList.drop k) k acc = if h : m < s.size then (if s[m].toNat = 110 then strGo (s.data.toList.drop (m + 1)) (m + 1) (acc ++ [10]) else if s[m].toNat = 34 ∨ s[m].toNat = 92 then strGo (s.data.toList.drop (m + 1)) (m + 1) (acc ++ [s[m]]) else .error (2, m)) else .error (2, m)) := by
        intro acc
        have hme := HM.out
        subst hme
        by_cases hl : k + 1 < s.size
        · rw [dif_pos hl]; exact strGo_esc s k hl h92 acc
        · rw [dif_neg hl]; exact strGo_escend s k (by omega) h92 acc
      clear h10 h34 h92 g1
      go_wp2_with fail
      generalize hw3 : World.setCell _ _ _ = w3
      have HR3 : Hid (Rd w3 b s m) := by rw [← hw3, HM.out]; exact HR2.out.set _
      have HF3 : Hid (RFr w w3 b) := by rw [← hw3]; exact HF2.out.trans (RFr.set _ _ _)
      have HE3 : Hid (Errs w3 L T M) := by rw [← hw3]; exact HE2.out.grown (fr_set _ _ _ _) hb
      clear hw3 c0 c1 f1
      by_cases hl : m < s.size
      · have hcm := byte_le s[m]
        have HESC2 : Hid (∀ acc, strGo (s.data.toList.drop k) k acc = if s[m].toNat = 110 then strGo (s.data.toList.drop (m + 1)) (m + 1) (acc ++ [10]) else if s[m].toNat = 34 ∨ s[m].toNat = 92 then strGo (s.data.toList.drop (m + 1)) (m + 1) (acc ++ [s[m]]) else .error (2, m)) := by
          intro acc; rw [HESC.out acc, dif_pos hl]
        clear HESC
        refine (pbegins_any b s (str [34]) m _ HR3.out (by omega) hs).mono ?_
        rintro e w4 ⟨rfl, n4, rfl⟩
        rw [data_str, starts_get s m hl]
        have HR4 : Hid (Rd (w3.drewN n4) b s m) := HR3.out.drewN _
        have HE4 : Hid (Errs (w3.drewN n4) L T M) := HE3.out.drewN _
        have HF4 : Hid (RFr w (w3.drewN n4) b) := HF3.out.trans (RFr.draws _ _ _)
        generalize w3.drewN n4 = w4 at *
        obtain ⟨c0, c1, f1⟩ := HR4.out
        by_cases d34 : s[m].toNat = 34
        · rw [show decide (s[m].toNat = (34 : UInt8).toNat) = true from by simp [d34]]
          have HS : Hid (∀ acc, strGo (s.data.toList.drop k) k acc = strGo (s.data.toList.drop (m + 1)) (m + 1) (acc ++ [s[m]])) := by
            intro acc; rw [HESC2.out acc, if_neg (by omega), if_pos (Or.inl d34)]
          clear d34 HESC2
          go_wp2_with fail
          go_quiet (fail)
          go_wp2
          go_ret2
          exact ⟨Or.inl ⟨s[m], m, by omega, hl, hm2, rfl, HR4.out.drewN _, HS.out⟩, HF4.out.trans (RFr.draws _ _ _)⟩
        · rw [show decide (s[m].toNat = (34 : UInt8).toNat) = false from by simp [d34]]
          go_wp2_with fail
          refine (pbegins_any b s (str [92]) m _ HR4.out (by omega) hs).mono ?_
          rintro e w5 ⟨rfl, n5, rfl⟩
          rw [data_str, starts_get s m hl]
          have HR5 : Hid (Rd (w4.drewN n5) b s m) := HR4.out.drewN _
          have HE5 : Hid (Errs (w4.drewN n5) L T M) := HE4.out.drewN _
          have HF5 : Hid (RFr w (w4.drewN n5) b) := HF4.out.trans (RFr.draws _ _ _)
          generalize w4.drewN n5 = w5 at *
          clear c0 c1 f1
          obtain ⟨c0, c1, f1⟩ := HR5.out
          by_cases d92 : s[m].toNat = 92
          · rw [show decide (s[m].toNat = (92 : UInt8).toNat) = true from by simp [d92]]
            have HS : Hid (∀ acc, strGo (s.data.toList.drop k) k acc = strGo (s.data.toList.drop (m + 1)) (m + 1) (acc ++ [s[m]])) := by
              intro acc; rw [HESC2.out acc, if_neg (by omega), if_pos (Or.inr d92)]
            clear d34 d92 HESC2
            go_wp2_with fail
            go_quiet (fail)
            go_wp2
            go_ret2
            exact ⟨Or.inl ⟨s[m], m, by omega, hl, hm2, rfl, HR5.out.drewN _, HS.out⟩, HF5.out.trans (RFr.draws _ _ _)⟩
          · rw [show decide (s[m].toNat = (92 : UInt8).toNat) = false from by simp [d92]]
            go_wp2_with fail
            refine (pbegins_any b s (str [110]) m _ HR5.out (by omega) hs).mono ?_
            rintro e w6 ⟨rfl, n6, rfl⟩
            rw [data_str, starts_get s m hl]
            have HR6 : Hid (Rd (w5.drewN n6) b s m) := HR5.out.drewN _
            have HE6 : Hid (Errs (w5.drewN n6) L T M) := HE5.out.drewN _
            have HF6 : Hid (RFr w (w5.drewN n6) b) := HF5.out.trans (RFr.draws _ _ _)
            generalize w5.drewN n6 = w6 at *
            have g1 := HE6.out.gt
            by_cases d110 : s[m].toNat = 110
            · rw [show decide (s[m].toNat = (110 : UInt8).toNat) = true from by simp [d110]]
              have HS : Hid (∀ acc, strGo (s.data.toList.drop k) k acc = strGo (s.data.toList.drop (m + 1)) (m + 1) (acc ++ [10])) := by
                intro acc; rw [HESC2.out acc, if_pos d110]
              clear d34 d92 d110 HESC2
              go_wp2
              go_ret2
              exact ⟨Or.inl ⟨10, m, by omega, hl, hm2, rfl, HR6.out, HS.out⟩, HF6.out⟩
            · rw [show decide (s[m].toNat = (110 : UInt8).toNat) = false from by simp [d110]]
              have HS : Hid (∀ acc, strGo (s.data.toList.drop k) k acc = .error (2, m)) := by
                intro acc; rw [HESC2.out acc, if_neg d110, if_neg (by omega)]
              clear d34 d92 d110 HESC2
              go_wp2_with fail
              refine (pfail_any b s m T _ HR6.out).mono ?_
              rintro e w7 ⟨rfl, rfl⟩
              go_wp2
              go_ret2
              exact ⟨Or.inr ⟨m, rfl, HS.out⟩, HF6.out⟩
      · have HS : Hid (∀ acc, strGo (s.data.toList.drop k) k acc = .error (2, m)) := by
          intro acc; rw [HESC.out acc, dif_neg hl]
        have hme : m ≤ s.size := by omega
        have hps : ∀ c, starts s.data.toList m [c] = false := fun c => starts_past s m (by omega) c
        clear HESC
        refine (pbegins_any b s (str [34]) m _ HR3.out hme hs).mono ?_
        rintro e w4 ⟨rfl, n4, rfl⟩
        rw [data_str, hps]
        have HR4 : Hid (Rd (w3.drewN n4) b s m) := HR3.out.drewN _
        have HE4 : Hid (Errs (w3.drewN n4) L T M) := HE3.out.drewN _
        have HF4 : Hid (RFr w (w3.drewN n4) b) := HF3.out.trans (RFr.draws _ _ _)
        generalize w3.drewN n4 = w4 at *
        go_wp2_with fail
        refine (pbegins_any b s (str [92]) m _ HR4.out hme hs).mono ?_
        rintro e w5 ⟨rfl, n5, rfl⟩
        rw [data_str, hps]
        have HR5 : Hid (Rd (w4.drewN n5) b s m) := HR4.out.drewN _
        have HE5 : Hid (Errs (w4.drewN n5) L T M) := HE4.out.drewN _
        have HF5 : Hid (RFr w (w4.drewN n5) b) := HF4.out.trans (RFr.draws _ _ _)
        generalize w4.drewN n5 = w5 at *
        go_wp2_with fail
        refine (pbegins_any b s (str [110]) m _ HR5.out hme hs).mono ?_
        rintro e w6 ⟨rfl, n6, rfl⟩
        rw [data_str, hps]
        have HR6 : Hid (Rd (w5.drewN n6) b s m) := HR5.out.drewN _
        have HE6 : Hid (Errs (w5.drewN n6) L T M) := HE5.out.drewN _
        have HF6 : Hid (RFr w (w5.drewN n6) b) := HF5.out.trans (RFr.draws _ _ _)
        generalize w5.drewN n6 = w6 at *
        have g1 := HE6.out.gt
        go_wp2_with fail
        refine (pfail_any b s m T _ HR6.out).mono ?_
        rintro e w7 ⟨rfl, rfl⟩
        go_wp2
        go_ret2
        exact ⟨Or.inr ⟨m, rfl, HS.out⟩, HF6.out⟩
    · rw [show decide (s[k].toNat = (92 : UInt8).toNat) = false from by simp [h92]]
      have HS := hide (fun acc => strGo_plain s k hk h34 h10 h92 acc)
      clear h10 h34 h92
      go_wp2_with fail
      go_quiet (fail)
      go_wp2
      go_ret2
      exact ⟨Or.inl ⟨s[k], k, Nat.le_refl _, hk, by omega, rfl, HR2.out.drewN _, HS.out⟩, HF2.out.trans (RFr.draws _ _ _)⟩
end Go.Proofs.YtoelacloghkooaaDoor
