import Derived.Test.YtgllfcoafgphbaaGreatDoorM02
/-
  The document's Reader: next, walked.
-/
namespace Go.Proofs.YtgllfcoafgphbaaGreatDoor
open Go.ChangeShapes Go.WideShapes Go.ChangeAt Go.RowKit
set_option linter.unusedVariables false
/-- all that a reader holds -/
structure RS (w : World) (b : Nat) (s : ByteArray) (i : Int) (kd : Int) (tx : ByteArray) (a : Int) (e x : Int) : Prop where
  c0 : w.cell? ⟨b, 0, none⟩ = some (.string s)
  c1 : w.cell? ⟨b, 1, none⟩ = some (.int .i64 i)
  c2 : w.cell? ⟨b, 2, none⟩ = some (.int .i64 kd)
  c3 : w.cell? ⟨b, 3, none⟩ = some (.string tx)
  c4 : w.cell? ⟨b, 4, none⟩ = some (.int .i64 a)
  c5 : w.cell? ⟨b, 5, none⟩ = some (.int .i64 e)
  c6 : w.cell? ⟨b, 6, none⟩ = some (.int .i64 x)
  f1 : w.frozen? ⟨b, 1, none⟩ = false
  f2 : w.frozen? ⟨b, 2, none⟩ = false
  f3 : w.frozen? ⟨b, 3, none⟩ = false
  f4 : w.frozen? ⟨b, 4, none⟩ = false
  f5 : w.frozen? ⟨b, 5, none⟩ = false
  f6 : w.frozen? ⟨b, 6, none⟩ = false
/-- what turns of a world is the reader alone -/
structure RFx (w w' : World) (b : Nat) : Prop where
  os : w'.os = w.os
  tape : w'.tape = w.tape
  output : w'.output = w.output
  size : w'.heap.size = w.heap.size
  block : ∀ k, k ≠ b → w'.heap[k]? = w.heap[k]?
theorem RFx.refl (w : World) (b : Nat) : RFx w w b := ⟨rfl, rfl, rfl, rfl, fun _ _ => rfl⟩
theorem RFx.trans {w w' w'' : World} {b : Nat} (h : RFx w w' b) (k : RFx w' w'' b) : RFx w w'' b :=
  ⟨k.os.trans h.os, k.tape.trans h.tape, k.output.trans h.output, k.size.trans h.size, fun j hj => (k.block j hj).trans (h.block j hj)⟩
theorem RFx.draws (w : World) (b n : Nat) : RFx w (w.drewN n) b := ⟨rfl, rfl, rfl, rfl, fun _ _ => rfl⟩
theorem RFx.set (w : World) (b j : Nat) (u : Value) : RFx w (w.setCell ⟨b, j, none⟩ u) b :=
  ⟨rfl, rfl, rfl, by simp [World.setCell], fun k hk => Below.heap_setCell w ⟨b, j, none⟩ u k hk⟩
theorem RFr.x {w w' : World} {b : Nat} (h : RFr w w' b) : RFx w w' b := ⟨h.os, h.tape, h.output, h.size, h.block⟩
theorem RS.rd {w : World} {b : Nat} {s : ByteArray} {i kd : Int} {tx : ByteArray} {a e x : Int} (h : RS w b s i kd tx a e x) : Rd w b s i := ⟨h.c0, h.c1, h.f1⟩
theorem RS.skipped {w w' : World} {b : Nat} {s : ByteArray} {i kd : Int} {tx : ByteArray} {a e x : Int} (h : RS w b s i kd tx a e x) (f : RFr w w' b) {j : Int} (r : Rd w' b s j) : RS w' b s j kd tx a e x :=
  ⟨r.c0, r.c1, (f.cell 2 (by omega)).trans h.c2, (f.cell 3 (by omega)).trans h.c3, (f.cell 4 (by omega)).trans h.c4, (f.cell 5 (by omega)).trans h.c5, (f.cell 6 (by omega)).trans h.c6,
    r.f1, (f.frozen 2).trans h.f2, (f.frozen 3).trans h.f3, (f.frozen 4).trans h.f4, (f.frozen 5).trans h.f5, (f.frozen 6).trans h.f6⟩
theorem RS.drewN {w : World} {b : Nat} {s : ByteArray} {i kd : Int} {tx : ByteArray} {a e x : Int} (h : RS w b s i kd tx a e x) (n : Nat) : RS (w.drewN n) b s i kd tx a e x :=
  ⟨h.c0, h.c1, h.c2, h.c3, h.c4, h.c5, h.c6, h.f1, h.f2, h.f3, h.f4, h.f5, h.f6⟩
theorem RS.set1 {w : World} {b : Nat} {s : ByteArray} {i kd : Int} {tx : ByteArray} {a e x : Int} (h : RS w b s i kd tx a e x) (j : Int) : RS (w.setCell ⟨b, 1, none⟩ (.int .i64 j)) b s j kd tx a e x := by
  constructor <;> first
    | (rw [World.cell?_setCell_same _ _ _ h.c1]; done)
    | (rw [World.cell?_setCell_other _ _ _ _ (by simp)]; first | exact h.c0 | exact h.c2 | exact h.c3 | exact h.c4 | exact h.c5 | exact h.c6)
    | (rw [World.frozen?_setCell]; first | exact h.f1 | exact h.f2 | exact h.f3 | exact h.f4 | exact h.f5 | exact h.f6)
theorem RS.set2 {w : World} {b : Nat} {s : ByteArray} {i kd : Int} {tx : ByteArray} {a e x : Int} (h : RS w b s i kd tx a e x) (j : Int) : RS (w.setCell ⟨b, 2, none⟩ (.int .i64 j)) b s i j tx a e x := by
  constructor <;> first
    | (rw [World.cell?_setCell_same _ _ _ h.c2]; done)
    | (rw [World.cell?_setCell_other _ _ _ _ (by simp)]; first | exact h.c0 | exact h.c1 | exact h.c3 | exact h.c4 | exact h.c5 | exact h.c6)
    | (rw [World.frozen?_setCell]; first | exact h.f1 | exact h.f2 | exact h.f3 | exact h.f4 | exact h.f5 | exact h.f6)
theorem RS.set3 {w : World} {b : Nat} {s : ByteArray} {i kd : Int} {tx : ByteArray} {a e x : Int} (h : RS w b s i kd tx a e x) (j : ByteArray) : RS (w.setCell ⟨b, 3, none⟩ (.string j)) b s i kd j a e x := by
  constructor <;> first
    | (rw [World.cell?_setCell_same _ _ _ h.c3]; done)
    | (rw [World.cell?_setCell_other _ _ _ _ (by simp)]; first | exact h.c0 | exact h.c1 | exact h.c2 | exact h.c4 | exact h.c5 | exact h.c6)
    | (rw [World.frozen?_setCell]; first | exact h.f1 | exact h.f2 | exact h.f3 | exact h.f4 | exact h.f5 | exact h.f6)
theorem RS.set4 {w : World} {b : Nat} {s : ByteArray} {i kd : Int} {tx : ByteArray} {a e x : Int} (h : RS w b s i kd tx a e x) (j : Int) : RS (w.setCell ⟨b, 4, none⟩ (.int .i64 j)) b s i kd tx j e x := by
  constructor <;> first
    | (rw [World.cell?_setCell_same _ _ _ h.c4]; done)
    | (rw [World.cell?_setCell_other _ _ _ _ (by simp)]; first | exact h.c0 | exact h.c1 | exact h.c2 | exact h.c3 | exact h.c5 | exact h.c6)
    | (rw [World.frozen?_setCell]; first | exact h.f1 | exact h.f2 | exact h.f3 | exact h.f4 | exact h.f5 | exact h.f6)
set_option maxRecDepth 100000 in
set_option maxHeartbeats 1000000 in
/-- next, where an error stands or nothing is left -/
theorem rnext_end (b : Nat) (s : ByteArray) (i : Nat) (kd : Int) (tx : ByteArray) (a e x : Int) (w : World) (h : RS w b s i kd tx a e x) (hi : i ≤ s.size) (hs : s.size ≤ 1073741824)
    (hend : ¬ e = 0 ∨ s.size ≤ skipTo s.data.toList i) (p : Nat) (hp : p = skipTo s.data.toList i) :
    Calls Tryz.prog 35 #[.pointer (some ⟨b, 0, none⟩)] w fun en w' => en = .returned (.tuple #[]) ∧ RS w' b s p 0 ByteArray.empty p e x ∧ RFx w w' b := by
  have HS : Hid (RS w b s i kd tx a e x) := h
  have HE : Hid (¬ e = 0 ∨ s.size ≤ p) := by show _ ∨ _; rw [hp]; exact hend
  have HP : Hid (p = skipTo s.data.toList i) := hp
  clear h hend hp
  go_enter Tryz.func35, Tryz.ntmps35
  go_wp2_with fail
  refine (rskip_any b s i _ HS.out.rd hi hs).mono ?_
  rintro en w1 ⟨rfl, HR, HF⟩
  have HS1 : Hid (RS w1 b s p kd tx a e x) := by
    have := HS.out.skipped HF HR
    rw [HP.out]; exact this
  have HX : Hid (RFx w w1 b) := HF.x
  clear HR HF HS
  obtain ⟨c0, c1, c2, c3, c4, c5, c6, f1, f2, f3, f4, f5, f6⟩ := HS1.out
  go_wp2
  generalize hw2 : World.setCell _ _ _ = w2
  have HS2 : Hid (RS w2 b s p 0 ByteArray.empty p e x) := by rw [← hw2]; exact ((HS1.out.set2 0).set3 _).set4 _
  have HX2 : Hid (RFx w w2 b) := by rw [← hw2]; exact ((HX.out.trans (RFx.set _ _ _ _)).trans (RFx.set _ _ _ _)).trans (RFx.set _ _ _ _)
  clear hw2 c0 c1 c2 c3 c4 c5 c6 f1 f2 f3 f4 f5 f6 HX HS1
  obtain ⟨c0, c1, c2, c3, c4, c5, c6, f1, f2, f3, f4, f5, f6⟩ := HS2.out
  by_cases he : e = 0
  · subst he
    have hsz : s.size ≤ p := by rcases HE.out with h | h; exact absurd rfl h; exact h
    go_wp2_with fail
    go_quiet (fail)
    go_wp2
    refine bodyPost_ret (results_none rfl _ _ _) rfl ?_
    exact ⟨rfl, HS2.out.drewN _, HX2.out.trans (RFx.draws _ _ _)⟩
  · have hh : (e != 0) = true := by rw [bne_iff_ne]; exact he
    clear he
    go_wp2_with fail
    go_quiet (fail)
    go_wp2
    refine bodyPost_ret (results_none rfl _ _ _) rfl ?_
    exact ⟨rfl, HS2.out.drewN _, HX2.out.trans (RFx.draws _ _ _)⟩
end Go.Proofs.YtgllfcoafgphbaaGreatDoor

/-
  The document's Reader: next at a word.
-/
namespace Go.Proofs.YtgllfcoafgphbaaGreatDoor
open Go.ChangeShapes Go.WideShapes Go.ChangeAt Go.RowKit
set_option linter.unusedVariables false
theorem extract_word (s : ByteArray) (p k n : Nat) (hn : n = (wordAt s.data.toList p).length) (hk : k = p + n) : (s.extract p k).data.toList = wordAt s.data.toList p := by
  subst hk
  have e : wordAt s.data.toList p = (s.data.toList.drop p).take n := by rw [hn]; exact List.prefix_iff_eq_take.1 (List.takeWhile_prefix _)
  rw [e, ByteArray.data_extract, Array.toList_extract, List.extract_eq_take_drop, Nat.add_sub_cancel_left]
set_option maxRecDepth 100000 in
set_option maxHeartbeats 1000000 in
theorem rnext_word (b : Nat) (s : ByteArray) (i : Nat) (kd : Int) (tx : ByteArray) (a x : Int) (w : World) (h : RS w b s i kd tx a 0 x) (hi : i ≤ s.size) (hs : s.size ≤ 1073741824)
    (p : Nat) (hp : p = skipTo s.data.toList i) (hlt : p < s.size) (hw : wordB s[p] = true) (hu : s[p].toNat ≠ 95) (n : Nat) (hn : n = (wordAt s.data.toList p).length) :
    Calls Tryz.prog 35 #[.pointer (some ⟨b, 0, none⟩)] w fun en w' => en = .returned (.tuple #[]) ∧ RS w' b s (p + n : Nat) (wordKindF (wordAt s.data.toList p) : Nat) (s.extract p (p + n)) p 0 x ∧ RFx w w' b := by
  have HS : Hid (RS w b s i kd tx a 0 x) := h
  have HP : Hid (p = skipTo s.data.toList i) := hp
  have HN : Hid (n = (wordAt s.data.toList p).length) := hn
  have HW : Hid (wordB s[p] = true) := hw
  have hu2 : ((s[p].toNat : Int) != 95) = true := by rw [bne_iff_ne]; omega
  have hc := byte_le s[p]
  clear h hp hn hw hu
  go_enter Tryz.func35, Tryz.ntmps35
  go_wp2_with fail
  refine (rskip_any b s i _ HS.out.rd hi hs).mono ?_
  rintro en w1 ⟨rfl, HR, HF⟩
  have HS1 : Hid (RS w1 b s p kd tx a 0 x) := by
    have := HS.out.skipped HF HR
    rw [HP.out]; exact this
  have HX : Hid (RFx w w1 b) := HF.x
  clear HR HF HS
  obtain ⟨c0, c1, c2, c3, c4, c5, c6, f1, f2, f3, f4, f5, f6⟩ := HS1.out
  go_wp2
  generalize hw2 : World.setCell _ _ _ = w2
  have HS2 : Hid (RS w2 b s p 0 ByteArray.empty p 0 x) := by rw [← hw2]; exact ((HS1.out.set2 0).set3 _).set4 _
  have HX2 : Hid (RFx w w2 b) := by rw [← hw2]; exact ((HX.out.trans (RFx.set _ _ _ _)).trans (RFx.set _ _ _ _)).trans (RFx.set _ _ _ _)
  clear hw2 c0 c1 c2 c3 c4 c5 c6 f1 f2 f3 f4 f5 f6 HX HS1
  obtain ⟨c0, c1, c2, c3, c4, c5, c6, f1, f2, f3, f4, f5, f6⟩ := HS2.out
  go_wp2_with fail
  go_quiet (fail)
  go_wp2_with fail
  refine (word_any s[p] _).mono ?_
  rintro e w3 ⟨rfl, rfl⟩
  rw [HW.out]
  go_wp2
  go_loopw [49] (fun _ wr => ∃ k : Nat, p ≤ k ∧ k ≤ s.size ∧ Hid (RS wr b s k 0 ByteArray.empty p 0 x) ∧ Hid (RFx w wr b) ∧ Hid (∀ j c, j < k - p → (s.data.toList.drop p)[j]? = some c → wordB c = true)) (fun _ wr => s.size - placeOf wr b)
  case atStart => exact ⟨p, Nat.le_refl _, by omega, HS2.out.drewN _, HX2.out.trans (RFx.draws _ _ _), fun j c hj => by omega⟩
  case round =>
    obtain ⟨k, hpk, hk, HK, HFK, HA⟩ := hrel
    clear c0 c1 c2 c3 c4 c5 c6 f1 f2 f3 f4 f5 f6 HS2 HX2
    obtain ⟨c0, c1, c2, c3, c4, c5, c6, f1, f2, f3, f4, f5, f6⟩ := HK.out
    have HPL : Hid (placeOf wr b = k) := placeOf_rd HK.out.rd
    by_cases hkl : k < s.size
    · have hck := byte_le s[k]
      cases hwk : wordB s[k] with
      | true =>
        have HA2 : Hid (∀ j c, j < k + 1 - p → (s.data.toList.drop p)[j]? = some c → wordB c = true) := by
          intro j c hj hcc
          by_cases e : j = k - p
          · subst e
            rw [List.getElem?_drop, Nat.add_sub_cancel' hpk, name_get s k hkl] at hcc
            cases hcc; exact hwk
          · exact HA.out j c (by omega) hcc
        have HT : Hid (∀ w, Calls Tryz.prog 70 #[.int .u8 (s[k].toNat : Int)] w fun e w' => e = .returned (.bool true) ∧ w' = w) := by
          intro w; have := word_any s[k] w; rw [hwk] at this; exact this.mono (fun e w' h => ⟨h.1, h.2.symm⟩)
        clear hwk
        go_wp2_with fail
        go_quiet ((go_at_call 70; refine Calls.quiet_of_same (HT.out _)))
        go_wp2
        go_roundw
        case rel => exact ⟨k + 1, by omega, by omega, (HK.out.drewN _).set1 _, (HFK.out.trans (RFx.draws _ _ _)).trans (RFx.set _ _ _ _), HA2⟩
        case measure => rw [placeOf_set (HK.out.drewN _).rd, HPL.out]; omega
      | false =>
        have HNK : Hid (k = p + n) := by
          have e : runLen wordB (s.data.toList.drop p) = k - p := runLen_is wordB _ (k - p) HA.out (fun c hcc => by
            rw [List.getElem?_drop, Nat.add_sub_cancel' hpk, name_get s k hkl] at hcc; cases hcc; exact hwk) (by simp; omega)
          have : n = k - p := by rw [HN.out]; exact e
          show _ = _; omega
        have HT : Hid (∀ w, Calls Tryz.prog 70 #[.int .u8 (s[k].toNat : Int)] w fun e w' => e = .returned (.bool false) ∧ w' = w) := by
          intro w; have := word_any s[k] w; rw [hwk] at this; exact this.mono (fun e w' h => ⟨h.1, h.2.symm⟩)
        have hpk2 : p < k := by
          rcases Nat.eq_or_lt_of_le hpk with e | e
          · subst e; rw [HW.out] at hwk; cases hwk
          · exact e
        have HEX : Hid ((s.extract p k).data.toList = wordAt s.data.toList p) := extract_word s p k n HN.out HNK.out
        have HLN : Hid ((s.extract p k).size = n) := by
          have := congrArg List.length HEX.out
          rw [← HN.out, Array.length_toList] at this; exact this
        have HPOS : Hid (0 < (s.extract p k).size ∧ (s.extract p k).size ≤ 140737488355328) := by
          have := HNK.out
          show _ ∧ _; rw [HLN.out]; omega
        clear hwk
        go_wp2_with fail
        go_quiet ((go_at_call 70; refine Calls.quiet_of_same (HT.out _)))
        go_wp2_with fail
        go_quiet (fail)
        go_wp2_with fail
        refine (rkind_any (s.extract p k) _ HPOS.out.1 HPOS.out.2).mono ?_
        rintro e w4 ⟨rfl, rfl⟩
        rw [HEX.out]
        go_wp2
        refine bodyPost_ret (results_none rfl _ _ _) rfl ?_
        refine ⟨rfl, ?_, ((((HFK.out.trans (RFx.draws _ _ _)).trans (RFx.set _ _ _ _)).trans (RFx.set _ _ _ _)).trans (RFx.set _ _ _ _))⟩
        rw [← HNK.out]
        exact ((((HK.out.drewN _).set2 _).set3 _).set4 _)
    · have hke : k = s.size := by omega
      have HNK : Hid (k = p + n) := by
        have e : runLen wordB (s.data.toList.drop p) = k - p := runLen_is wordB _ (k - p) HA.out (fun c hcc => by
          rw [List.getElem?_drop, Nat.add_sub_cancel' hpk, List.getElem?_eq_none (by simp; omega)] at hcc; cases hcc) (by simp; omega)
        have : n = k - p := by rw [HN.out]; exact e
        show _ = _; omega
      have hpk2 : p < k := by omega
      have HEX : Hid ((s.extract p k).data.toList = wordAt s.data.toList p) := extract_word s p k n HN.out HNK.out
      have HLN : Hid ((s.extract p k).size = n) := by
        have := congrArg List.length HEX.out
        rw [← HN.out, Array.length_toList] at this; exact this
      have HPOS : Hid (0 < (s.extract p k).size ∧ (s.extract p k).size ≤ 140737488355328) := by
        have := HNK.out
        show _ ∧ _; rw [HLN.out]; omega
      clear hke
      go_wp2_with fail
      go_quiet (fail)
      go_wp2_with fail
      go_quiet (fail)
      go_wp2_with fail
      refine (rkind_any (s.extract p k) _ HPOS.out.1 HPOS.out.2).mono ?_
      rintro e w4 ⟨rfl, rfl⟩
      rw [HEX.out]
      go_wp2
      refine bodyPost_ret (results_none rfl _ _ _) rfl ?_
      refine ⟨rfl, ?_, ((((HFK.out.trans (RFx.draws _ _ _)).trans (RFx.set _ _ _ _)).trans (RFx.set _ _ _ _)).trans (RFx.set _ _ _ _))⟩
      rw [← HNK.out]
      exact ((((HK.out.drewN _).set2 _).set3 _).set4 _)
end Go.Proofs.YtgllfcoafgphbaaGreatDoor

/-
  The document's Reader: next at a sign.
-/
namespace Go.Proofs.YtgllfcoafgphbaaGreatDoor
open Go.ChangeShapes Go.WideShapes Go.ChangeAt Go.RowKit
set_option linter.unusedVariables false
set_option maxRecDepth 100000 in
set_option maxHeartbeats 2000000 in
theorem rnext_sign (b : Nat) (s : ByteArray) (i : Nat) (kd : Int) (tx : ByteArray) (a x : Int) (w : World) (h : RS w b s i kd tx a 0 x) (hi : i ≤ s.size) (hs : s.size ≤ 1073741824)
    (p : Nat) (hp : p = skipTo s.data.toList i) (hlt : p < s.size) (hw : wordB s[p] = false ∨ s[p].toNat = 95) (m : Nat) (hm : m = signLen s p s[p]) :
    Calls Tryz.prog 35 #[.pointer (some ⟨b, 0, none⟩)] w fun en w' => en = .returned (.tuple #[]) ∧ RS w' b s ((if s[p].toNat = 34 then p else p + m : Nat)) 7 (s.extract p (p + m)) p 0 x ∧ RFx w w' b := by
  have HS : Hid (RS w b s i kd tx a 0 x) := h
  have HP : Hid (p = skipTo s.data.toList i) := hp
  have hc := byte_le s[p]
  have hcase : (wordB s[p] = false ∨ (wordB s[p] = true ∧ ((s[p].toNat : Int) != 95) = false)) := by
    rcases hw with h | h
    · exact Or.inl h
    · cases wordB s[p]
      · exact Or.inl rfl
      · exact Or.inr ⟨rfl, by simp [h]⟩
  have hsign : (((s[p].toNat : Int) == 33) = true ∧ ((s[p].toNat : Int) != 34) = true ∧ p + 2 ≤ s.size ∧ m = 2 ∧ Hid (¬ s[p].toNat = 34)) ∨
      (((s[p].toNat : Int) == 33) = true ∧ ((s[p].toNat : Int) != 34) = true ∧ s.size < p + 2 ∧ m = 1 ∧ Hid (¬ s[p].toNat = 34)) ∨
      (((s[p].toNat : Int) == 33) = false ∧ ((s[p].toNat : Int) == 58) = true ∧ ((s[p].toNat : Int) != 34) = true ∧ p + 2 ≤ s.size ∧ m = 2 ∧ Hid (¬ s[p].toNat = 34)) ∨
      (((s[p].toNat : Int) == 33) = false ∧ ((s[p].toNat : Int) == 58) = true ∧ ((s[p].toNat : Int) != 34) = true ∧ s.size < p + 2 ∧ m = 1 ∧ Hid (¬ s[p].toNat = 34)) ∨
      (((s[p].toNat : Int) == 33) = false ∧ ((s[p].toNat : Int) == 58) = false ∧ ((s[p].toNat : Int) != 34) = true ∧ m = 1 ∧ Hid (¬ s[p].toNat = 34)) ∨
      (((s[p].toNat : Int) == 33) = false ∧ ((s[p].toNat : Int) == 58) = false ∧ ((s[p].toNat : Int) != 34) = false ∧ m = 1 ∧ Hid (s[p].toNat = 34)) := by
    rw [hm]
    unfold signLen Hid
    by_cases h33 : s[p].toNat = 33
    · by_cases h2 : p + 2 ≤ s.size
      · left; simp [h33, h2]
      · right; left; simp [h33, h2]; omega
    · have e33 : ((s[p].toNat : Int) == 33) = false := by rw [beq_eq_false_iff_ne]; omega
      by_cases h58 : s[p].toNat = 58
      · by_cases h2 : p + 2 ≤ s.size
        · right; right; left; simp [h58, h2]
        · right; right; right; left; simp [h58, h2]; omega
      · have e58 : ((s[p].toNat : Int) == 58) = false := by rw [beq_eq_false_iff_ne]; omega
        by_cases h34 : s[p].toNat = 34
        · right; right; right; right; right; simp [h34]
        · right; right; right; right; left
          have e34 : ((s[p].toNat : Int) != 34) = true := by rw [bne_iff_ne]; omega
          simp [h33, h58, e33, e58, e34, h34]
  clear h hp hw hm
  go_enter Tryz.func35, Tryz.ntmps35
  go_wp2_with fail
  refine (rskip_any b s i _ HS.out.rd hi hs).mono ?_
  rintro en w1 ⟨rfl, HR, HF⟩
  have HS1 : Hid (RS w1 b s p kd tx a 0 x) := by
    have := HS.out.skipped HF HR
    rw [HP.out]; exact this
  have HX : Hid (RFx w w1 b) := HF.x
  clear HR HF HS
  obtain ⟨c0, c1, c2, c3, c4, c5, c6, f1, f2, f3, f4, f5, f6⟩ := HS1.out
  go_wp2
  generalize hw2 : World.setCell _ _ _ = w2
  have HS2 : Hid (RS w2 b s p 0 ByteArray.empty p 0 x) := by rw [← hw2]; exact ((HS1.out.set2 0).set3 _).set4 _
  have HX2 : Hid (RFx w w2 b) := by rw [← hw2]; exact ((HX.out.trans (RFx.set _ _ _ _)).trans (RFx.set _ _ _ _)).trans (RFx.set _ _ _ _)
  clear hw2 c0 c1 c2 c3 c4 c5 c6 f1 f2 f3 f4 f5 f6 HX HS1
  obtain ⟨c0, c1, c2, c3, c4, c5, c6, f1, f2, f3, f4, f5, f6⟩ := HS2.out
  have HSG := (⟨hsign⟩ : PLift _)
  clear hsign
  go_wp2_with fail
  go_quiet (fail)
  go_wp2_with fail
  refine (word_any s[p] _).mono ?_
  rintro e w3 ⟨rfl, rfl⟩
  rcases hcase with HW | ⟨HW, hu⟩
  all_goals
    rw [HW]
    clear HW
    rcases HSG.down with ⟨g1, g2, g3, rfl, G⟩ | ⟨g1, g2, g3, rfl, G⟩ | ⟨g1, g0, g2, g3, rfl, G⟩ | ⟨g1, g0, g2, g3, rfl, G⟩ | ⟨g1, g0, g2, rfl, G⟩ | ⟨g1, g0, g2, rfl, G⟩
    iterate 5
      · clear HSG
        go_wp2
        go_end0
        refine ⟨rfl, ?_, ((((HX2.out.trans (RFx.draws _ _ _)).trans (RFx.set _ _ _ _)).trans (RFx.set _ _ _ _)).trans (RFx.set _ _ _ _)).trans (RFx.set _ _ _ _)⟩
        try rw [if_neg G.out]
        exact ((((HS2.out.drewN _).set2 _).set3 _).set4 _).set1 _
    · clear HSG
      go_wp2
      go_end0
      refine ⟨rfl, ?_, (((HX2.out.trans (RFx.draws _ _ _)).trans (RFx.set _ _ _ _)).trans (RFx.set _ _ _ _)).trans (RFx.set _ _ _ _)⟩
      try rw [if_pos G.out]
      exact (((HS2.out.drewN _).set2 _).set3 _).set4 _
end Go.Proofs.YtgllfcoafgphbaaGreatDoor

/-
  The document's reader in plain words of states, and that it reads what the grammar says. Nothing of the program.
-/
namespace Go.Proofs.YtgllfcoafgphbaaGreatDoor
set_option linter.unusedVariables false
/-- what a document's reader holds -/
structure RSt where
  i : Nat
  kd : Nat
  tx : ByteArray
  a : Nat
  e : Nat
  x : Nat
def at0 (s : ByteArray) (p : Nat) : UInt8 := if h : p < s.size then s[p] else 0
/-- the reader that stands at a place -/
def sgn (s : ByteArray) (p : Nat) : RSt :=
  if s.size ≤ p then ⟨p, 0, ByteArray.empty, p, 0, 0⟩
  else if wordB (at0 s p) && decide (¬ (at0 s p).toNat = 95) then ⟨p + (wordAt s.data.toList p).length, wordKindF (wordAt s.data.toList p), s.extract p (p + (wordAt s.data.toList p).length), p, 0, 0⟩
  else ⟨if (at0 s p).toNat = 34 then p else p + signLen s p (at0 s p), 7, s.extract p (p + signLen s p (at0 s p)), p, 0, 0⟩
/-- next -/
def nextS (s : ByteArray) (st : RSt) : RSt :=
  if st.e = 0 then { sgn s (skipTo s.data.toList st.i) with x := st.x }
  else ⟨skipTo s.data.toList st.i, 0, ByteArray.empty, skipTo s.data.toList st.i, st.e, st.x⟩
def failS (e x : Nat) (st : RSt) : RSt := if st.e = 0 then { st with e := e, x := x } else st
def isS (sg : List UInt8) (st : RSt) : Bool := decide (st.e = 0) && decide (st.kd = 7) && decide (st.tx.data.toList = sg)
def gotS (s : ByteArray) (sg : List UInt8) (st : RSt) : RSt := if isS sg st then nextS s st else st
def mustS (s : ByteArray) (sg : List UInt8) (st : RSt) : RSt := if isS sg st then nextS s st else failS 2 st.a st
def textS (s : ByteArray) (st : RSt) : RSt := match strGo (s.data.toList.drop (st.i + 1)) (st.i + 1) [] with
  | .error (_, p) => { st with i := p, e := 2, x := p }
  | .ok (out, q) => ⟨q, 6, ⟨out.toArray⟩, st.i, st.e, st.x⟩
def quotS (s : ByteArray) (st : RSt) : RSt := if isS [34] st then (if (textS s st).e = 0 ∧ 200 < (textS s st).tx.size then failS 1 (textS s st).a (textS s st) else textS s st) else st
def termKind (k : Nat) : Bool := decide (k = 1) || decide (k = 2) || decide (k = 3) || decide (k = 6)
def checkS (st : RSt) : RSt := if termKind st.kd then st else failS 2 st.a st
def termS (s : ByteArray) (st : RSt) : PTerm × RSt :=
  if (checkS (quotS s st)).e = 0 then (⟨decide ((quotS s st).kd = 2), (quotS s st).tx.data.toList, (quotS s st).a⟩, nextS s (checkS (quotS s st))) else (noTerm, checkS (quotS s st))
def manyS (no : Bool) (st : RSt) : RSt := if decide (st.kd = 1) || decide (st.kd = 2) || decide (st.kd = 3) || (no && decide (st.kd = 4)) || isS [34] st then failS 7 st.a st else st
def argsS (s : ByteArray) : Nat → List PTerm → RSt → List PTerm × RSt
  | 0, acc, st => (acc, st)
  | n + 1, acc, st => if st.e = 0 then
      (let r := termS s (if 8 ≤ acc.length then manyS false st else st)
       if isS [44] r.2 then argsS s n (acc ++ [r.1]) (nextS s r.2) else (acc ++ [r.1], r.2))
    else (acc, st)
def atomS (s : ByteArray) (name : List UInt8) (x : Nat) (st : RSt) : PAtom × RSt :=
  if isS [40] st then (⟨name, (argsS s 10 [] (nextS s st)).1, x⟩, mustS s [41] (argsS s 10 [] (nextS s st)).2) else (⟨name, [], x⟩, st)
def nameS (st : RSt) : RSt := if st.kd = 1 then st else failS 2 st.a st
def namedS (s : ByteArray) (st : RSt) : PAtom × RSt := if (nameS st).e = 0 then atomS s st.tx.data.toList st.a (nextS s (nameS st)) else (noAtom, nameS st)
def noPart : PPart := ⟨0, noAtom, noTerm, noTerm⟩
def partS (s : ByteArray) (st : RSt) : PPart × RSt :=
  if st.kd = 4 then (⟨1, (namedS s (nextS s st)).1, noTerm, noTerm⟩, (namedS s (nextS s st)).2)
  else
    let r := termS s st
    if isS [61] r.2 then (let u := termS s (nextS s r.2); (⟨2, noAtom, r.1, u.1⟩, u.2))
    else if isS [33, 61] r.2 then (let u := termS s (nextS s r.2); (⟨3, noAtom, r.1, u.1⟩, u.2))
    else if isS [60] r.2 then (let u := termS s (nextS s r.2); (⟨4, noAtom, r.1, u.1⟩, u.2))
    else
      let q := if st.kd = 1 then r.2 else failS 2 r.2.a r.2
      if q.e = 0 then (let a := atomS s st.tx.data.toList st.a q; (⟨0, a.1, noTerm, noTerm⟩, a.2)) else (noPart, q)
def pbodyS (s : ByteArray) : Nat → List PPart → RSt → List PPart × RSt
  | 0, acc, st => (acc, st)
  | n + 1, acc, st => if st.e = 0 then
      (let r := partS s (if 12 ≤ acc.length then manyS true st else st)
       if isS [44] r.2 then pbodyS s n (acc ++ [r.1]) (nextS s r.2) else (acc ++ [r.1], r.2))
    else (acc, st)
def partsS (s : ByteArray) (st : RSt) : List PPart × RSt := ((pbodyS s 14 [] st).1, mustS s [46] (pbodyS s 14 [] st).2)
def ruleS (s : ByteArray) (n : Nat) (st : RSt) : PRule × RSt :=
  let r := namedS s (if 200 ≤ n ∧ st.kd = 1 then failS 7 st.a st else st)
  if isS [58, 45] r.2 then (let b := partsS s (nextS s r.2); (⟨r.1, b.1⟩, b.2)) else (⟨r.1, []⟩, mustS s [46] r.2)
def rulesS (s : ByteArray) : Nat → List PRule → RSt → List PRule × RSt
  | 0, acc, st => (acc, st)
  | n + 1, acc, st => if st.e = 0 ∧ ¬ st.kd = 0 then rulesS s n (acc ++ [(ruleS s acc.length st).1]) (ruleS s acc.length st).2 else (acc, st)
def startS : RSt := ⟨0, 0, ByteArray.empty, 0, 0, 0⟩
def readRulesS (s : ByteArray) : Except PErr (List PRule) :=
  if 20000 < s.size then .error (1, 0)
  else
    let r := rulesS s 202 [] (nextS s startS)
    if r.2.e = 0 then .ok r.1 else .error (r.2.e, r.2.x)
def readQueryS (s : ByteArray) : Except PErr (List PPart) :=
  if 20000 < s.size then .error (1, 0)
  else
    let r := partsS s (nextS s startS)
    let q := if r.2.kd = 0 then r.2 else failS 2 r.2.a r.2
    if q.e = 0 then .ok r.1 else .error (q.e, q.x)
theorem drop_at (s : ByteArray) (p : Nat) (h : p < s.size) : s.data.toList.drop p = at0 s p :: s.data.toList.drop (p + 1) := by
  unfold at0
  rw [dif_pos h, List.drop_eq_getElem_cons (by simpa using h)]; rfl
theorem drop_end (s : ByteArray) (p : Nat) (h : s.size ≤ p) : s.data.toList.drop p = [] := List.drop_eq_nil_of_le (by simpa using h)
theorem extract_take (s : ByteArray) (p m : Nat) : (s.extract p (p + m)).data.toList = (s.data.toList.drop p).take m := by
  rw [ByteArray.data_extract, Array.toList_extract, List.extract_eq_take_drop, Nat.add_sub_cancel_left]
theorem take_word (l : List UInt8) (p : Nat) : (l.drop p).take (wordAt l p).length = wordAt l p := (List.prefix_iff_eq_take.1 (List.takeWhile_prefix _)).symm
theorem wordKind_le (l : List UInt8) : wordKindF l ≠ 7 ∧ wordKindF l ≠ 0 ∧ wordKindF l ≠ 6 := by
  unfold wordKindF; repeat' split
  all_goals decide
theorem wordAt_end (s : ByteArray) (p : Nat) (h : s.size ≤ p) : wordAt s.data.toList p = [] := by unfold wordAt; rw [drop_end s p h]; rfl
theorem wordAt_no (s : ByteArray) (p : Nat) (h : p < s.size) (hw : wordB (at0 s p) = false) : wordAt s.data.toList p = [] := by unfold wordAt; rw [drop_at s p h, List.takeWhile_cons, hw]; rfl
theorem wordAt_yes (s : ByteArray) (p : Nat) (h : p < s.size) (hw : wordB (at0 s p) = true) : ∃ t, wordAt s.data.toList p = at0 s p :: t := by unfold wordAt; rw [drop_at s p h, List.takeWhile_cons, hw]; exact ⟨_, rfl⟩
@[simp] theorem sgn_a (s : ByteArray) (p : Nat) : (sgn s p).a = p := by
  unfold sgn; repeat' split
  all_goals rfl
@[simp] theorem sgn_e (s : ByteArray) (p : Nat) : (sgn s p).e = 0 := by
  unfold sgn; repeat' split
  all_goals rfl
@[simp] theorem sgn_x (s : ByteArray) (p : Nat) : (sgn s p).x = 0 := by
  unfold sgn; repeat' split
  all_goals rfl
theorem sgn_kd0 (s : ByteArray) (p : Nat) : (sgn s p).kd = 0 ↔ s.size ≤ p := by
  unfold sgn
  split
  · simp [*]
  · split
    · constructor
      · intro h; exact absurd h (wordKind_le _).2.1
      · intro h; contradiction
    · constructor
      · intro h; cases h
      · intro h; contradiction
/-- the kinds of a word that can't be one -/
theorem kinds_none (w : List UInt8) (h : w = [] ∨ ∃ t, ∃ c : UInt8, w = c :: t ∧ c.toNat = 95) : isName w = false ∧ isVarB w = false ∧ isDigB w = false ∧ w ≠ [110, 111, 116] := by
  rcases h with rfl | ⟨t, c, rfl, hc⟩
  · exact ⟨rfl, rfl, rfl, by simp⟩
  · refine ⟨?_, ?_, ?_, ?_⟩
    · simp [isName, smallB, hc]
    · simp [isVarB, capitalB, hc]
    · simp [isDigB, digitB, hc]
    · intro e
      have : c = 110 := by simpa using (List.cons.inj e).1
      rw [this] at hc; revert hc; decide
theorem kinds_apart (w : List UInt8) : (isName w = true → isVarB w = false ∧ isDigB w = false ∧ w ≠ [110, 111, 116]) ∧ (isVarB w = true → isDigB w = false ∧ w ≠ [110, 111, 116]) ∧ (isDigB w = true → w ≠ [110, 111, 116]) := by
  cases w with
  | nil => simp [isName, isVarB, isDigB]
  | cons c t =>
    refine ⟨?_, ?_, ?_⟩
    · intro h
      simp [isName, smallB] at h
      refine ⟨?_, ?_, ?_⟩
      · simp [isVarB, capitalB]; omega
      · simp [isDigB, digitB]; omega
      · intro e; simp at e; simp_all
    · intro h
      simp [isVarB, capitalB] at h
      refine ⟨?_, ?_⟩
      · simp [isDigB, digitB]; omega
      · intro e
        have : c = 110 := (List.cons.inj e).1
        rw [this] at h; revert h; simp
    · intro h e
      have : c = 110 := (List.cons.inj e).1
      rw [this] at h; revert h; simp [isDigB, digitB]
/-- what stands at a place: nothing, a word, or a sign -/
theorem sgn_cases (s : ByteArray) (p : Nat) :
    (s.size ≤ p ∧ sgn s p = ⟨p, 0, ByteArray.empty, p, 0, 0⟩ ∧ wordAt s.data.toList p = []) ∨
    (p < s.size ∧ wordB (at0 s p) = true ∧ (at0 s p).toNat ≠ 95 ∧ sgn s p = ⟨p + (wordAt s.data.toList p).length, wordKindF (wordAt s.data.toList p), s.extract p (p + (wordAt s.data.toList p).length), p, 0, 0⟩) ∨
    (p < s.size ∧ (wordB (at0 s p) = false ∨ (at0 s p).toNat = 95) ∧ sgn s p = ⟨if (at0 s p).toNat = 34 then p else p + signLen s p (at0 s p), 7, s.extract p (p + signLen s p (at0 s p)), p, 0, 0⟩ ∧
      (isName (wordAt s.data.toList p) = false ∧ isVarB (wordAt s.data.toList p) = false ∧ isDigB (wordAt s.data.toList p) = false ∧ wordAt s.data.toList p ≠ [110, 111, 116])) := by
  by_cases h : s.size ≤ p
  · left; exact ⟨h, by unfold sgn; rw [if_pos h], wordAt_end s p h⟩
  · have hlt : p < s.size := by omega
    by_cases hw : wordB (at0 s p) = true ∧ (at0 s p).toNat ≠ 95
    · right; left
      refine ⟨hlt, hw.1, hw.2, ?_⟩
      unfold sgn; rw [if_neg h, if_pos (by rw [hw.1]; simpa using hw.2)]
    · right; right
      refine ⟨hlt, ?_, ?_, ?_⟩
      · cases hb : wordB (at0 s p)
        · exact Or.inl rfl
        · right
          have := fun g => hw ⟨hb, g⟩
          exact Decidable.byContradiction this
      · unfold sgn; rw [if_neg h, if_neg ?_]
        intro g; simp at g; exact hw ⟨g.1, g.2⟩
      · apply kinds_none
        cases hb : wordB (at0 s p)
        · left; exact wordAt_no s p hlt hb
        · right
          obtain ⟨t, ht⟩ := wordAt_yes s p hlt hb
          exact ⟨t, _, ht, Decidable.byContradiction fun g => hw ⟨hb, g⟩⟩
theorem starts_one (s : ByteArray) (p : Nat) (c : UInt8) : starts s.data.toList p [c] = decide (p < s.size ∧ at0 s p = c) := by
  unfold starts
  by_cases h : p < s.size
  · rw [drop_at s p h]; rw [Bool.eq_iff_iff]; simp only [List.isPrefixOf, Bool.and_true, beq_iff_eq, decide_eq_true_eq]; exact ⟨fun e => ⟨h, e.symm⟩, fun e => e.2.symm⟩
  · rw [drop_end s p (by omega)]; simp [List.isPrefixOf, h]
theorem starts_two (s : ByteArray) (p : Nat) (c d : UInt8) : starts s.data.toList p [c, d] = decide (p + 2 ≤ s.size ∧ at0 s p = c ∧ at0 s (p + 1) = d) := by
  unfold starts
  by_cases h : p < s.size
  · rw [drop_at s p h]
    by_cases h2 : p + 1 < s.size
    · rw [drop_at s (p + 1) h2]
      have : p + 2 ≤ s.size := by omega
      rw [Bool.eq_iff_iff]; simp only [List.isPrefixOf, Bool.and_true, Bool.and_eq_true, beq_iff_eq, decide_eq_true_eq]; exact ⟨fun e => ⟨this, e.1.symm, e.2.symm⟩, fun e => ⟨e.2.1.symm, e.2.2.symm⟩⟩
    · rw [drop_end s (p + 1) (by omega)]
      have : ¬ (p + 2 ≤ s.size) := by omega
      simp [List.isPrefixOf, this]
  · rw [drop_end s p (by omega)]
    have : ¬ (p + 2 ≤ s.size) := by omega
    simp [List.isPrefixOf, this]
theorem is_one (s : ByteArray) (p : Nat) (c : UInt8) (hw : wordB c = false) (h33 : c.toNat ≠ 33) (h58 : c.toNat ≠ 58) : isS [c] (sgn s p) = starts s.data.toList p [c] := by
  rw [starts_one]
  rcases sgn_cases s p with ⟨h, e, _⟩ | ⟨h, hb, h95, e⟩ | ⟨h, hb, e, _⟩
  · rw [e]; simp [isS]; omega
  · rw [e]
    have : at0 s p ≠ c := by intro g; rw [g, hw] at hb; cases hb
    simp [isS, this, (wordKind_le _).1]
  · rw [e]
    simp only [isS, extract_take, drop_at s p h]
    by_cases g : at0 s p = c
    · have : signLen s p (at0 s p) = 1 := by unfold signLen; rw [if_neg]; rw [g]; omega
      rw [this]; simp [g, h]
    · have : signLen s p (at0 s p) = 1 ∨ signLen s p (at0 s p) = 2 := by unfold signLen; split <;> simp
      rcases this with t | t <;> rw [t] <;> simp [g, List.take]
theorem is_two (s : ByteArray) (p : Nat) (c d : UInt8) (h3 : c.toNat = 33 ∨ c.toNat = 58) : isS [c, d] (sgn s p) = starts s.data.toList p [c, d] := by
  rw [starts_two]
  rcases sgn_cases s p with ⟨h, e, _⟩ | ⟨h, hb, h95, e⟩ | ⟨h, hb, e, _⟩
  · rw [e]; simp [isS]; intro; omega
  · rw [e]
    have : at0 s p ≠ c := by
      intro g; rw [g] at hb
      rcases h3 with g3 | g3 <;> simp [wordB, smallB, g3] at hb
    simp [isS, this, (wordKind_le _).1]
  · rw [e]
    simp only [isS, extract_take, drop_at s p h]
    by_cases h2 : p + 2 ≤ s.size
    · by_cases g : at0 s p = c
      · have : signLen s p (at0 s p) = 2 := by unfold signLen; rw [if_pos]; rw [g]; exact ⟨h3, h2⟩
        rw [this, drop_at s (p + 1) (by omega)]; simp [g, h2]
      · have : signLen s p (at0 s p) = 1 ∨ signLen s p (at0 s p) = 2 := by unfold signLen; split <;> simp
        rcases this with t | t <;> rw [t] <;> simp [g, List.take]
    · have : signLen s p (at0 s p) = 1 := by unfold signLen; rw [if_neg]; omega
      rw [this]; simp [h2]
theorem next_one (s : ByteArray) (p : Nat) (c : UInt8) (hw : wordB c = false) (h33 : c.toNat ≠ 33) (h58 : c.toNat ≠ 58) (h34 : c.toNat ≠ 34) (h : isS [c] (sgn s p) = true) : nextS s (sgn s p) = sgn s (skipTo s.data.toList (p + 1)) := by
  have hs := is_one s p c hw h33 h58
  rw [h, starts_one] at hs
  have ⟨hlt, hc⟩ := of_decide_eq_true hs.symm
  unfold nextS
  rw [if_pos (sgn_e s p)]
  have hi : (sgn s p).i = p + 1 := by
    rcases sgn_cases s p with ⟨h, e, _⟩ | ⟨h, hb, h95, e⟩ | ⟨h, hb, e, _⟩
    · omega
    · rw [hc, hw] at hb; cases hb
    · rw [e]; simp only []
      rw [hc, if_neg h34]; unfold signLen; rw [if_neg]; omega
  rw [hi, sgn_x]
  generalize skipTo s.data.toList (p + 1) = q
  have := sgn_x s q
  cases hq : sgn s q; rw [hq] at this; simp only [] at this; subst this; rfl
theorem next_two (s : ByteArray) (p : Nat) (c d : UInt8) (h3 : c.toNat = 33 ∨ c.toNat = 58) (h : isS [c, d] (sgn s p) = true) : nextS s (sgn s p) = sgn s (skipTo s.data.toList (p + 2)) := by
  have hs := is_two s p c d h3
  rw [h, starts_two] at hs
  have ⟨hlt, hc, hd⟩ := of_decide_eq_true hs.symm
  unfold nextS
  rw [if_pos (sgn_e s p)]
  have hi : (sgn s p).i = p + 2 := by
    rcases sgn_cases s p with ⟨h, e, _⟩ | ⟨h, hb, h95, e⟩ | ⟨h, hb, e, _⟩
    · omega
    · rw [hc] at hb
      rcases h3 with g3 | g3 <;> simp [wordB, smallB, g3] at hb
    · rw [e]; simp only []
      rw [hc, if_neg (by omega)]; unfold signLen; rw [if_pos ⟨h3, hlt⟩]
  rw [hi, sgn_x]
  generalize skipTo s.data.toList (p + 2) = q
  have := sgn_x s q
  cases hq : sgn s q; rw [hq] at this; simp only [] at this; subst this; rfl
theorem next_sgn (s : ByteArray) (i : Nat) (kd : Nat) (tx : ByteArray) (a : Nat) : nextS s ⟨i, kd, tx, a, 0, 0⟩ = sgn s (skipTo s.data.toList i) := by
  unfold nextS
  rw [if_pos rfl]
  show RSt.mk _ _ _ _ _ _ = _
  generalize skipTo s.data.toList i = q
  have := sgn_x s q
  cases hq : sgn s q; rw [hq] at this; simp only [] at this; subst this; rfl
/-- a word at hand -/
theorem word_sgn (s : ByteArray) (p : Nat) (h : (sgn s p).kd = 1 ∨ (sgn s p).kd = 2 ∨ (sgn s p).kd = 3 ∨ (sgn s p).kd = 4) :
    (sgn s p).kd = wordKindF (wordAt s.data.toList p) ∧ (sgn s p).tx.data.toList = wordAt s.data.toList p ∧ nextS s (sgn s p) = sgn s (skipTo s.data.toList (p + (wordAt s.data.toList p).length)) := by
  rcases sgn_cases s p with ⟨_, e, _⟩ | ⟨_, _, _, e⟩ | ⟨_, _, e, _⟩
  · rw [e] at h; simp at h
  · rw [e, next_sgn]
    exact ⟨rfl, by rw [extract_take, take_word], rfl⟩
  · rw [e] at h; simp at h
theorem kd_is (s : ByteArray) (p : Nat) : ((sgn s p).kd = 1 ↔ isName (wordAt s.data.toList p) = true) ∧ ((sgn s p).kd = 2 ↔ isVarB (wordAt s.data.toList p) = true) ∧ ((sgn s p).kd = 3 ↔ isDigB (wordAt s.data.toList p) = true) ∧ ((sgn s p).kd = 4 ↔ wordAt s.data.toList p = [110, 111, 116]) ∧ (sgn s p).kd ≠ 6 := by
  rcases sgn_cases s p with ⟨_, e, hw⟩ | ⟨_, _, _, e⟩ | ⟨_, _, e, hn, hv, hd, h4⟩
  · rw [e, hw]; simp [isName, isVarB, isDigB]
  · rw [e]
    simp only []
    generalize wordAt s.data.toList p = w
    obtain ⟨h1, h2, h3⟩ := kinds_apart w
    refine ⟨?_, ?_, ?_, ?_, (wordKind_le _).2.2⟩
    · unfold wordKindF
      constructor
      · intro h; revert h; repeat' split
        all_goals simp_all
      · intro h; rw [if_neg (h1 h).2.2, if_pos h]
    · unfold wordKindF
      constructor
      · intro h; revert h; repeat' split
        all_goals simp_all
      · intro h
        rw [if_neg (h2 h).2, if_neg, if_pos h]
        intro g; have := (h1 g).1; rw [h] at this; cases this
    · unfold wordKindF
      constructor
      · intro h; revert h; repeat' split
        all_goals simp_all
      · intro h
        rw [if_neg (h3 h), if_neg, if_neg, if_pos h]
        · intro g; have := (h2 g).1; rw [h] at this; cases this
        · intro g; have := (h1 g).2.1; rw [h] at this; cases this
    · unfold wordKindF
      constructor
      · intro h; revert h; repeat' split
        all_goals simp_all
      · intro h; rw [if_pos h]
  · rw [e]; simp [hn, hv, hd, h4]
/-- an answer of the reader, against one of the grammar -/
def Goes {α : Type} (s : ByteArray) (F : Except PErr (α × Nat)) (r : α × RSt) : Prop := match F with
  | .error (e, x) => e ≠ 0 ∧ r.2.e = e ∧ r.2.x = x
  | .ok (v, q) => r = (v, sgn s q)
/-- dead: an error stands -/
theorem isS_dead {st : RSt} (h : st.e ≠ 0) (sg : List UInt8) : isS sg st = false := by simp [isS, h]
theorem failS_dead {st : RSt} (h : st.e ≠ 0) (e x : Nat) : failS e x st = st := by unfold failS; rw [if_neg h]
theorem nextS_same (s : ByteArray) (st : RSt) : (nextS s st).e = st.e ∧ (nextS s st).x = st.x := by
  unfold nextS; split
  · exact ⟨by rw [show st.e = 0 by assumption]; exact sgn_e _ _, rfl⟩
  · exact ⟨rfl, rfl⟩
theorem mustS_dead (s : ByteArray) {st : RSt} (h : st.e ≠ 0) (sg : List UInt8) : mustS s sg st = st := by unfold mustS; rw [isS_dead h]; simp [failS_dead h]
theorem manyS_dead {st : RSt} (h : st.e ≠ 0) (b : Bool) : manyS b st = st := by unfold manyS; rw [failS_dead h]; split <;> rfl
theorem termS_dead (s : ByteArray) {st : RSt} (h : st.e ≠ 0) : termS s st = (noTerm, st) := by
  have hq : quotS s st = st := by unfold quotS; rw [isS_dead h]; rfl
  have hc : checkS st = st := by unfold checkS; rw [failS_dead h]; split <;> rfl
  unfold termS; rw [hq, hc, if_neg h]
theorem atomS_dead (s : ByteArray) (name : List UInt8) (x : Nat) {st : RSt} (h : st.e ≠ 0) : atomS s name x st = (⟨name, [], x⟩, st) := by unfold atomS; rw [isS_dead h]; rfl
theorem nameS_dead {st : RSt} (h : st.e ≠ 0) : nameS st = st := by unfold nameS; rw [failS_dead h]; split <;> rfl
theorem namedS_dead (s : ByteArray) {st : RSt} (h : st.e ≠ 0) : namedS s st = (noAtom, st) := by unfold namedS; rw [nameS_dead h, if_neg h]
theorem partS_dead (s : ByteArray) {st : RSt} (h : st.e ≠ 0) : (partS s st).2.e = st.e ∧ (partS s st).2.x = st.x := by
  unfold partS
  split
  · have hn := nextS_same s st
    rw [namedS_dead s (by rw [hn.1]; exact h)]; exact hn
  · rw [termS_dead s h]
    simp [isS_dead h, failS_dead h, h]
theorem pbodyS_dead (s : ByteArray) (n : Nat) (acc : List PPart) {st : RSt} (h : st.e ≠ 0) : pbodyS s n acc st = (acc, st) := by
  cases n with
  | zero => rfl
  | succ n => unfold pbodyS; rw [if_neg h]
theorem strGo_err (l : List UInt8) : ∀ (n : Nat) (p : Nat) (acc : List UInt8) (e x : Nat), l.length ≤ n → strGo l p acc = .error (e, x) → e = 2 := by
  intro n
  induction n generalizing l with
  | zero =>
    intro p acc e x hl h
    cases l with
    | nil => rw [strGo] at h; cases h; rfl
    | cons c t => simp at hl
  | succ n ih =>
    intro p acc e x hl h
    cases l with
    | nil => rw [strGo] at h; cases h; rfl
    | cons c t =>
      simp at hl
      unfold strGo at h
      split at h
      · cases h
      · split at h
        · cases h; rfl
        · split at h
          · cases t with
            | nil => cases h; rfl
            | cons d t2 =>
              simp at hl
              simp only [] at h
              split at h
              · exact ih t2 _ _ _ _ (by omega) h
              · split at h
                · exact ih t2 _ _ _ _ (by omega) h
                · cases h; rfl
          · exact ih t _ _ _ _ hl h
theorem is34 (s : ByteArray) (p : Nat) : isS [34] (sgn s p) = starts s.data.toList p [34] := is_one s p 34 (by decide) (by decide) (by decide)
theorem is40 (s : ByteArray) (p : Nat) : isS [40] (sgn s p) = starts s.data.toList p [40] := is_one s p 40 (by decide) (by decide) (by decide)
theorem is41 (s : ByteArray) (p : Nat) : isS [41] (sgn s p) = starts s.data.toList p [41] := is_one s p 41 (by decide) (by decide) (by decide)
theorem is44 (s : ByteArray) (p : Nat) : isS [44] (sgn s p) = starts s.data.toList p [44] := is_one s p 44 (by decide) (by decide) (by decide)
theorem is46 (s : ByteArray) (p : Nat) : isS [46] (sgn s p) = starts s.data.toList p [46] := is_one s p 46 (by decide) (by decide) (by decide)
theorem is60 (s : ByteArray) (p : Nat) : isS [60] (sgn s p) = starts s.data.toList p [60] := is_one s p 60 (by decide) (by decide) (by decide)
theorem is61 (s : ByteArray) (p : Nat) : isS [61] (sgn s p) = starts s.data.toList p [61] := is_one s p 61 (by decide) (by decide) (by decide)
theorem is33 (s : ByteArray) (p : Nat) : isS [33, 61] (sgn s p) = starts s.data.toList p [33, 61] := is_two s p 33 61 (by decide)
theorem is58 (s : ByteArray) (p : Nat) : isS [58, 45] (sgn s p) = starts s.data.toList p [58, 45] := is_two s p 58 45 (by decide)
/-- a sign passed, and the same in the grammar -/
theorem sign_goes (s : ByteArray) (p : Nat) (sg : List UInt8) (h : sg = [40] ∨ sg = [41] ∨ sg = [44] ∨ sg = [46] ∨ sg = [60] ∨ sg = [61] ∨ sg = [33, 61] ∨ sg = [58, 45]) :
    (isS sg (sgn s p) = true ∧ ∃ q, signF s.data.toList sg p = some q ∧ nextS s (sgn s p) = sgn s q) ∨ (isS sg (sgn s p) = false ∧ signF s.data.toList sg p = none) := by
  have hs : isS sg (sgn s p) = starts s.data.toList p sg := by
    rcases h with rfl | rfl | rfl | rfl | rfl | rfl | rfl | rfl
    · exact is40 s p
    · exact is41 s p
    · exact is44 s p
    · exact is46 s p
    · exact is60 s p
    · exact is61 s p
    · exact is33 s p
    · exact is58 s p
  have hn : isS sg (sgn s p) = true → nextS s (sgn s p) = sgn s (skipTo s.data.toList (p + sg.length)) := by
    intro g
    rcases h with rfl | rfl | rfl | rfl | rfl | rfl | rfl | rfl
    · exact next_one s p 40 (by decide) (by decide) (by decide) (by decide) g
    · exact next_one s p 41 (by decide) (by decide) (by decide) (by decide) g
    · exact next_one s p 44 (by decide) (by decide) (by decide) (by decide) g
    · exact next_one s p 46 (by decide) (by decide) (by decide) (by decide) g
    · exact next_one s p 60 (by decide) (by decide) (by decide) (by decide) g
    · exact next_one s p 61 (by decide) (by decide) (by decide) (by decide) g
    · exact next_two s p 33 61 (by decide) g
    · exact next_two s p 58 45 (by decide) g
  cases hc : isS sg (sgn s p) with
  | true => left; refine ⟨rfl, _, ?_, hn hc⟩; unfold signF; rw [← hs, hc]; rfl
  | false => right; refine ⟨rfl, ?_⟩; unfold signF; rw [← hs, hc]; rfl
theorem term_kind (s : ByteArray) (p : Nat) : termKind (sgn s p).kd = (isName (wordAt s.data.toList p) || isVarB (wordAt s.data.toList p) || isDigB (wordAt s.data.toList p)) := by
  obtain ⟨h1, h2, h3, h4, h6⟩ := kd_is s p
  unfold termKind
  rw [Bool.eq_iff_iff]
  simp [h1, h2, h3, h6]
theorem term_goes (s : ByteArray) (p : Nat) : Goes s (termF s.data.toList p) (termS s (sgn s p)) := by
  unfold termF
  have hi := is34 s p
  cases h34 : starts s.data.toList p [34] with
  | true =>
    rw [h34] at hi
    have h34' := h34
    rw [starts_one] at h34'
    obtain ⟨hlt, hc⟩ := of_decide_eq_true h34'
    have hb : wordB (at0 s p) = false := by rw [hc]; rfl
    have hst : sgn s p = ⟨p, 7, s.extract p (p + 1), p, 0, 0⟩ := by
      rcases sgn_cases s p with ⟨_, e, _⟩ | ⟨_, g, _, e⟩ | ⟨_, _, e, _⟩
      · omega
      · rw [hb] at g; cases g
      · rw [e, hc]
        have : signLen s p 34 = 1 := by unfold signLen; rw [if_neg (fun g => absurd g.1 (by decide))]
        rw [this]; rfl
    simp only [if_true]
    have ht : textS s (sgn s p) = match strGo (s.data.toList.drop (p + 1)) (p + 1) [] with
        | .error (_, q) => ⟨q, 7, s.extract p (p + 1), p, 2, q⟩
        | .ok (out, q) => ⟨q, 6, ⟨out.toArray⟩, p, 0, 0⟩ := by
      unfold textS; rw [hst]
    cases hg : strGo (s.data.toList.drop (p + 1)) (p + 1) [] with
    | error er =>
      obtain ⟨e, x⟩ := er
      have he := strGo_err _ _ _ _ _ _ (Nat.le_refl _) hg
      subst he
      rw [hg] at ht
      simp only [] at ht
      have hq : quotS s (sgn s p) = ⟨x, 7, s.extract p (p + 1), p, 2, x⟩ := by
        unfold quotS; rw [hi, ht]; rfl
      unfold termS; rw [hq]
      exact ⟨by decide, rfl, rfl⟩
    | ok r =>
      obtain ⟨out, q⟩ := r
      rw [hg] at ht
      simp only [] at ht
      by_cases h2 : 200 < out.length
      · simp only [if_pos h2]
        have hq : quotS s (sgn s p) = ⟨q, 6, ⟨out.toArray⟩, p, 1, p⟩ := by
          unfold quotS; rw [hi, ht]
          have : 200 < (⟨out.toArray⟩ : ByteArray).size := by show 200 < out.toArray.size; simpa using h2
          simp [this, failS]
        unfold termS; rw [hq]
        exact ⟨by decide, rfl, rfl⟩
      · simp only [if_neg h2]
        have hq : quotS s (sgn s p) = ⟨q, 6, ⟨out.toArray⟩, p, 0, 0⟩ := by
          unfold quotS; rw [hi, ht]
          have : ¬ 200 < (⟨out.toArray⟩ : ByteArray).size := by show ¬ 200 < out.toArray.size; simpa using h2
          simp [this]
        unfold termS; rw [hq]
        show (if (checkS ⟨q, 6, ⟨out.toArray⟩, p, 0, 0⟩).e = 0 then _ else _) = _
        have hc : checkS ⟨q, 6, ⟨out.toArray⟩, p, 0, 0⟩ = ⟨q, 6, ⟨out.toArray⟩, p, 0, 0⟩ := rfl
        rw [hc, if_pos rfl, next_sgn]; simp
  | false =>
    rw [h34] at hi
    have hq : quotS s (sgn s p) = sgn s p := by unfold quotS; rw [hi]; rfl
    have hk := term_kind s p
    have hat : atTermB s.data.toList p = termKind (sgn s p).kd := by unfold atTermB; rw [h34, hk]; rfl
    rw [hat]
    simp only [Bool.false_eq_true, if_false]
    cases ht : termKind (sgn s p).kd with
    | true =>
      have hc : checkS (sgn s p) = sgn s p := by unfold checkS; rw [ht]; rfl
      have h6 := (kd_is s p).2.2.2.2
      have hw := word_sgn s p (by simp [termKind, h6] at ht; omega)
      unfold termS; rw [hq, hc, if_pos (sgn_e s p), hw.2.1, hw.2.2, sgn_a]
      simp only [if_true]
      show _ = _
      have : decide ((sgn s p).kd = 2) = isVarB (wordAt s.data.toList p) := by rw [Bool.eq_iff_iff]; simp [(kd_is s p).2.1]
      rw [this]
    | false =>
      have hc : checkS (sgn s p) = { sgn s p with e := 2, x := p } := by unfold checkS; rw [ht]; simp [failS]
      unfold termS; rw [hq, hc]
      exact ⟨by decide, rfl, rfl⟩
theorem termF_not (l : List UInt8) (p : Nat) (h : atTermB l p = false) : termF l p = .error (2, p) := by
  unfold termF
  have h2 := h
  unfold atTermB at h2
  simp only [Bool.or_eq_false_iff] at h2
  rw [h2.1.1.1, h]; rfl
theorem at_term (s : ByteArray) (p : Nat) : (decide ((sgn s p).kd = 1) || decide ((sgn s p).kd = 2) || decide ((sgn s p).kd = 3) || isS [34] (sgn s p)) = atTermB s.data.toList p := by
  obtain ⟨h1, h2, h3, _⟩ := kd_is s p
  unfold atTermB
  rw [Bool.eq_iff_iff]
  simp only [Bool.or_eq_true, decide_eq_true_eq, h1, h2, h3, is34]
  constructor
  · rintro (((h | h) | h) | h) <;> simp [h]
  · rintro (((h | h) | h) | h) <;> simp [h]
theorem many_term (s : ByteArray) (p : Nat) : manyS false (sgn s p) = if atTermB s.data.toList p then { sgn s p with e := 7, x := p } else sgn s p := by
  unfold manyS
  have h := at_term s p
  simp only [Bool.false_and, Bool.or_false, h]
  simp [failS]
theorem many_part (s : ByteArray) (p : Nat) : manyS true (sgn s p) = if atPartB s.data.toList p then { sgn s p with e := 7, x := p } else sgn s p := by
  unfold manyS atPartB
  have h := at_term s p
  have h4 : decide ((sgn s p).kd = 4) = (wordAt s.data.toList p == [110, 111, 116]) := by rw [Bool.eq_iff_iff]; simp [(kd_is s p).2.2.2.1]
  simp only [Bool.true_and, h4]
  have : (decide ((sgn s p).kd = 1) || decide ((sgn s p).kd = 2) || decide ((sgn s p).kd = 3) || (wordAt s.data.toList p == [110, 111, 116]) || isS [34] (sgn s p)) = ((wordAt s.data.toList p == [110, 111, 116]) || atTermB s.data.toList p) := by
    rw [← h]
    cases decide ((sgn s p).kd = 1) <;> cases decide ((sgn s p).kd = 2) <;> cases decide ((sgn s p).kd = 3) <;> cases (wordAt s.data.toList p == [110, 111, 116]) <;> cases isS [34] (sgn s p) <;> rfl
  rw [this]; simp [failS]
/-- lists: the loop of terms -/
def GoesL {α : Type} (s : ByteArray) (acc : List α) (F : Except PErr (List α × Nat)) (r : List α × RSt) : Prop := match F with
  | .error (e, x) => e ≠ 0 ∧ r.2.e = e ∧ r.2.x = x
  | .ok (v, q) => r = (acc ++ v, sgn s q)
theorem args_goes (s : ByteArray) : ∀ (n : Nat) (acc : List PTerm) (p : Nat), acc.length + n = 8 →
    GoesL s acc (listF (atTermB s.data.toList) (termF s.data.toList) (signF s.data.toList [44]) n p) (argsS s (n + 2) acc (sgn s p)) := by
  intro n
  induction n with
  | zero =>
    intro acc p hl
    have hl8 : 8 ≤ acc.length := by omega
    unfold argsS listF
    rw [if_pos (sgn_e s p)]
    simp only [if_pos hl8, many_term]
    cases ha : atTermB s.data.toList p with
    | true =>
      simp only [if_true]
      have hd : ({ sgn s p with e := 7, x := p } : RSt).e ≠ 0 := by simp
      rw [termS_dead s hd]
      simp only [isS_dead hd]
      exact ⟨by decide, rfl, rfl⟩
    | false =>
      simp only [Bool.false_eq_true, if_false]
      have ht := term_goes s p
      rw [termF_not _ _ ha] at ht
      have hd : (termS s (sgn s p)).2.e ≠ 0 := by rw [ht.2.1]; decide
      simp only [isS_dead hd]
      exact ⟨by decide, ht.2.1, ht.2.2⟩
  | succ n ih =>
    intro acc p hl
    have hl8 : ¬ 8 ≤ acc.length := by omega
    unfold argsS listF
    rw [if_pos (sgn_e s p)]
    simp only [if_neg hl8]
    have ht := term_goes s p
    cases ha : atTermB s.data.toList p with
    | false =>
      rw [termF_not _ _ ha] at ht
      have hd : (termS s (sgn s p)).2.e ≠ 0 := by rw [ht.2.1]; decide
      simp only [isS_dead hd]
      exact ⟨by decide, ht.2.1, ht.2.2⟩
    | true =>
      simp only [if_true]
      cases hf : termF s.data.toList p with
      | error er =>
        obtain ⟨e, x⟩ := er
        rw [hf] at ht
        have hd : (termS s (sgn s p)).2.e ≠ 0 := by rw [ht.2.1]; exact ht.1
        simp only [isS_dead hd]
        exact ht
      | ok r =>
        obtain ⟨t, q⟩ := r
        rw [hf] at ht
        have ht' : termS s (sgn s p) = (t, sgn s q) := ht
        rw [ht']
        simp only []
        rcases sign_goes s q [44] (by simp) with ⟨h1, r, h2, h3⟩ | ⟨h1, h2⟩
        · rw [h1, h2, h3]
          simp only [if_true]
          have := ih (acc ++ [t]) r (by simp; omega)
          cases hr : listF (atTermB s.data.toList) (termF s.data.toList) (signF s.data.toList [44]) n r with
          | error er => rw [hr] at this; exact this
          | ok rr =>
            obtain ⟨xs, r2⟩ := rr
            rw [hr] at this
            have this' : _ = (acc ++ [t] ++ xs, sgn s r2) := this
            show _ = _
            rw [this']; simp
        · rw [h1, h2]
          show _ = _
          simp
/-- what stands behind an atom's name -/
def restF (l : List UInt8) (name : List UInt8) (x q : Nat) : Except PErr (PAtom × Nat) := match signF l [40] q with
  | none => .ok (⟨name, [], x⟩, q)
  | some q => match listF (atTermB l) (termF l) (signF l [44]) 8 q with
    | .error e => .error e
    | .ok (args, r) => match signF l [41] r with
      | none => .error (2, r)
      | some r2 => .ok (⟨name, args, x⟩, r2)
theorem atomF_is (l : List UInt8) (p : Nat) : atomF l p = if atNameB l p then restF l (wordAt l p) p (skipTo l (p + (wordAt l p).length)) else .error (2, p) := rfl
theorem must_goes (s : ByteArray) (q : Nat) (sg : List UInt8) (h : sg = [40] ∨ sg = [41] ∨ sg = [44] ∨ sg = [46] ∨ sg = [60] ∨ sg = [61] ∨ sg = [33, 61] ∨ sg = [58, 45]) :
    (∃ r, signF s.data.toList sg q = some r ∧ mustS s sg (sgn s q) = sgn s r) ∨ (signF s.data.toList sg q = none ∧ mustS s sg (sgn s q) = { sgn s q with e := 2, x := q }) := by
  rcases sign_goes s q sg h with ⟨h1, r, h2, h3⟩ | ⟨h1, h2⟩
  · left; refine ⟨r, h2, ?_⟩; unfold mustS; rw [if_pos h1, h3]
  · right; refine ⟨h2, ?_⟩; unfold mustS; rw [h1]; simp [failS]
theorem atom_goes (s : ByteArray) (name : List UInt8) (x q : Nat) : Goes s (restF s.data.toList name x q) (atomS s name x (sgn s q)) := by
  unfold restF atomS
  rcases sign_goes s q [40] (by simp) with ⟨h1, r, h2, h3⟩ | ⟨h1, h2⟩
  · rw [h1, h2, h3]
    simp only [if_true]
    have ha := args_goes s 8 [] r rfl
    cases hr : listF (atTermB s.data.toList) (termF s.data.toList) (signF s.data.toList [44]) 8 r with
    | error er =>
      obtain ⟨e, y⟩ := er
      rw [hr] at ha
      simp only []
      have hd : (argsS s 10 [] (sgn s r)).2.e ≠ 0 := by have := ha.2.1; rw [this]; exact ha.1
      refine ⟨ha.1, ?_, ?_⟩
      · rw [mustS_dead s hd]; exact ha.2.1
      · rw [mustS_dead s hd]; exact ha.2.2
    | ok rr =>
      obtain ⟨xs, r2⟩ := rr
      rw [hr] at ha
      have ha' : argsS s 10 [] (sgn s r) = ([] ++ xs, sgn s r2) := ha
      rw [ha']
      simp only []
      rcases must_goes s r2 [41] (by simp) with ⟨r3, h4, h5⟩ | ⟨h4, h5⟩
      · rw [h4, h5]; rfl
      · rw [h4, h5]; exact ⟨by decide, rfl, rfl⟩
  · rw [h1, h2]; rfl
theorem named_goes (s : ByteArray) (p : Nat) : Goes s (atomF s.data.toList p) (namedS s (sgn s p)) := by
  rw [atomF_is]
  have hk := (kd_is s p).1
  unfold namedS nameS atNameB
  cases hn : isName (wordAt s.data.toList p) with
  | true =>
    have h1 := hk.2 hn
    have hw := word_sgn s p (Or.inl h1)
    rw [if_pos h1]
    rw [if_pos (sgn_e s p), hw.2.1, hw.2.2, sgn_a]
    simp only [if_true]
    exact atom_goes s _ _ _
  | false =>
    have h1 : ¬ (sgn s p).kd = 1 := by rw [hk, hn]; simp
    rw [if_neg h1]
    simp only [failS, sgn_e, sgn_a, if_true]
    exact ⟨by decide, rfl, rfl⟩
theorem compF_goes (s : ByteArray) (q : Nat) (t : PTerm) (z : PPart × RSt) :
    (if isS [61] (sgn s q) then (let u := termS s (nextS s (sgn s q)); ((⟨2, noAtom, t, u.1⟩ : PPart), u.2))
    else if isS [33, 61] (sgn s q) then (let u := termS s (nextS s (sgn s q)); (⟨3, noAtom, t, u.1⟩, u.2))
    else if isS [60] (sgn s q) then (let u := termS s (nextS s (sgn s q)); (⟨4, noAtom, t, u.1⟩, u.2)) else z) =
    match compF s.data.toList q with
    | none => z
    | some (k, r) => (⟨k, noAtom, t, (termS s (sgn s r)).1⟩, (termS s (sgn s r)).2) := by
  unfold compF
  rcases sign_goes s q [61] (by simp) with ⟨h1, r, h2, h3⟩ | ⟨h1, h2⟩
  · rw [h1, h2, h3]; rfl
  · rw [h1, h2]
    rcases sign_goes s q [33, 61] (by simp) with ⟨g1, r, g2, g3⟩ | ⟨g1, g2⟩
    · rw [g1, g2, g3]; rfl
    · rw [g1, g2]
      rcases sign_goes s q [60] (by simp) with ⟨f1, r, f2, f3⟩ | ⟨f1, f2⟩
      · rw [f1, f2, f3]; rfl
      · rw [f1, f2]; rfl
theorem part_goes (s : ByteArray) (p : Nat) : Goes s (partF s.data.toList p) (partS s (sgn s p)) := by
  unfold partF partS
  obtain ⟨hk1, hk2, hk3, hk4, hk6⟩ := kd_is s p
  by_cases h4 : wordAt s.data.toList p = [110, 111, 116]
  · have h4' := hk4.2 h4
    have hw := word_sgn s p (by omega)
    rw [if_pos h4, if_pos h4', hw.2.2]
    have : (wordAt s.data.toList p).length = 3 := by rw [h4]; rfl
    rw [this]
    have hn := named_goes s (skipTo s.data.toList (p + 3))
    cases hf : atomF s.data.toList (skipTo s.data.toList (p + 3)) with
    | error er => rw [hf] at hn; exact hn
    | ok r =>
      obtain ⟨a, q⟩ := r
      rw [hf] at hn
      have hn' : namedS s (sgn s (skipTo s.data.toList (p + 3))) = (a, sgn s q) := hn
      rw [hn']; rfl
  · have h4' : ¬ (sgn s p).kd = 4 := fun g => h4 (hk4.1 g)
    rw [if_neg h4, if_neg h4']
    have ht := term_goes s p
    cases hf : termF s.data.toList p with
    | error er =>
      obtain ⟨e, x⟩ := er
      rw [hf] at ht
      have hd : (termS s (sgn s p)).2.e ≠ 0 := by rw [ht.2.1]; exact ht.1
      have hn : atNameB s.data.toList p = false := by
        cases hn : atNameB s.data.toList p with
        | false => rfl
        | true =>
          exfalso
          have hk := hk1.2 hn
          have hw := word_sgn s p (Or.inl hk)
          have hs : starts s.data.toList p [34] = false := by
            rw [← is34]; simp [isS, hk]
          unfold termF at hf
          rw [hs] at hf
          have : atTermB s.data.toList p = true := by unfold atTermB; unfold atNameB at hn; rw [hn]; simp
          rw [this] at hf; cases hf
      rw [hn]
      simp only [isS_dead hd, failS_dead hd]
      have h1 : ¬ (sgn s p).kd = 1 := by rw [hk1]; unfold atNameB at hn; rw [hn]; simp
      simp only [Bool.false_and, Bool.false_eq_true, if_false, if_neg h1, if_neg hd]
      exact ht
    | ok r =>
      obtain ⟨t, q⟩ := r
      rw [hf] at ht
      have ht' : termS s (sgn s p) = (t, sgn s q) := ht
      rw [ht']
      simp only []
      rw [compF_goes]
      cases hn : atNameB s.data.toList p with
      | true =>
        have hk := hk1.2 hn
        have hw := word_sgn s p (Or.inl hk)
        have hs : starts s.data.toList p [34] = false := by rw [← is34]; simp [isS, hk]
        have hq : q = skipTo s.data.toList (p + (wordAt s.data.toList p).length) := by
          unfold termF at hf
          rw [hs] at hf
          have : atTermB s.data.toList p = true := by unfold atTermB; unfold atNameB at hn; rw [hn]; simp
          rw [this] at hf
          simp only [Bool.false_eq_true, if_false, if_true, Except.ok.injEq, Prod.mk.injEq] at hf
          exact hf.2.symm
        rw [← hq]
        cases hc : compF s.data.toList q with
        | none =>
          simp only [Option.isNone_none, Bool.and_true, if_true, hk, sgn_e, sgn_a, hw.2.1]
          have ha := atom_goes s (wordAt s.data.toList p) p q
          have he : atomF s.data.toList p = restF s.data.toList (wordAt s.data.toList p) p q := by rw [atomF_is, hn, if_pos rfl, hq]
          rw [he]
          cases hr : restF s.data.toList (wordAt s.data.toList p) p q with
          | error er => rw [hr] at ha; exact ha
          | ok rr =>
            obtain ⟨a, q2⟩ := rr
            rw [hr] at ha
            have ha' : atomS s (wordAt s.data.toList p) p (sgn s q) = (a, sgn s q2) := ha
            rw [ha']; rfl
        | some kr =>
          obtain ⟨k, r⟩ := kr
          simp only [Option.isNone_some, Bool.and_false, Bool.false_eq_true, if_false]
          have hu := term_goes s r
          cases hr : termF s.data.toList r with
          | error er => rw [hr] at hu; exact hu
          | ok rr =>
            obtain ⟨u, r2⟩ := rr
            rw [hr] at hu
            have hu' : termS s (sgn s r) = (u, sgn s r2) := hu
            rw [hu']; rfl
      | false =>
        have h1 : ¬ (sgn s p).kd = 1 := by rw [hk1]; unfold atNameB at hn; rw [hn]; simp
        simp only [Bool.false_and, Bool.false_eq_true, if_false, if_neg h1]
        cases hc : compF s.data.toList q with
        | none =>
          simp only [failS, sgn_e, sgn_a, if_true]
          exact ⟨by decide, rfl, rfl⟩
        | some kr =>
          obtain ⟨k, r⟩ := kr
          have hu := term_goes s r
          cases hr : termF s.data.toList r with
          | error er => simp only [hr]; rw [hr] at hu; exact hu
          | ok rr =>
            obtain ⟨u, r2⟩ := rr
            simp only [hr]
            rw [hr] at hu
            have hu' : termS s (sgn s r) = (u, sgn s r2) := hu
            rw [hu']; rfl
theorem partF_not (l : List UInt8) (p : Nat) (h : atPartB l p = false) : partF l p = .error (2, p) := by
  unfold atPartB at h
  simp only [Bool.or_eq_false_iff] at h
  have h4 : ¬ wordAt l p = [110, 111, 116] := by have := h.1; simpa using this
  have ht := h.2
  have hn : atNameB l p = false := by
    unfold atTermB at ht
    simp only [Bool.or_eq_false_iff] at ht
    exact ht.1.1.2
  unfold partF
  rw [if_neg h4, hn, termF_not l p h.2]; rfl
theorem parts_goes (s : ByteArray) : ∀ (n : Nat) (acc : List PPart) (p : Nat), acc.length + n = 12 →
    GoesL s acc (listF (atPartB s.data.toList) (partF s.data.toList) (signF s.data.toList [44]) n p) (pbodyS s (n + 2) acc (sgn s p)) := by
  intro n
  induction n with
  | zero =>
    intro acc p hl
    have hl8 : 12 ≤ acc.length := by omega
    unfold pbodyS listF
    rw [if_pos (sgn_e s p)]
    simp only [if_pos hl8, many_part]
    cases ha : atPartB s.data.toList p with
    | true =>
      simp only [if_true]
      have hd : ({ sgn s p with e := 7, x := p } : RSt).e ≠ 0 := by simp
      have hp := partS_dead s hd
      have hd2 : (partS s { sgn s p with e := 7, x := p }).2.e ≠ 0 := by rw [hp.1]; exact hd
      simp only [isS_dead hd2]
      exact ⟨by decide, hp.1, hp.2⟩
    | false =>
      simp only [Bool.false_eq_true, if_false]
      have ht := part_goes s p
      rw [partF_not _ _ ha] at ht
      have hd : (partS s (sgn s p)).2.e ≠ 0 := by rw [ht.2.1]; decide
      simp only [isS_dead hd]
      exact ⟨by decide, ht.2.1, ht.2.2⟩
  | succ n ih =>
    intro acc p hl
    have hl8 : ¬ 12 ≤ acc.length := by omega
    unfold pbodyS listF
    rw [if_pos (sgn_e s p)]
    simp only [if_neg hl8]
    have ht := part_goes s p
    cases ha : atPartB s.data.toList p with
    | false =>
      rw [partF_not _ _ ha] at ht
      have hd : (partS s (sgn s p)).2.e ≠ 0 := by rw [ht.2.1]; decide
      simp only [isS_dead hd]
      exact ⟨by decide, ht.2.1, ht.2.2⟩
    | true =>
      simp only [if_true]
      cases hf : partF s.data.toList p with
      | error er =>
        obtain ⟨e, x⟩ := er
        rw [hf] at ht
        have hd : (partS s (sgn s p)).2.e ≠ 0 := by rw [ht.2.1]; exact ht.1
        simp only [isS_dead hd]
        exact ht
      | ok r =>
        obtain ⟨t, q⟩ := r
        rw [hf] at ht
        have ht' : partS s (sgn s p) = (t, sgn s q) := ht
        rw [ht']
        simp only []
        rcases sign_goes s q [44] (by simp) with ⟨h1, r, h2, h3⟩ | ⟨h1, h2⟩
        · rw [h1, h2, h3]
          simp only [if_true]
          have := ih (acc ++ [t]) r (by simp; omega)
          cases hr : listF (atPartB s.data.toList) (partF s.data.toList) (signF s.data.toList [44]) n r with
          | error er => rw [hr] at this; exact this
          | ok rr =>
            obtain ⟨xs, r2⟩ := rr
            rw [hr] at this
            have this' : _ = (acc ++ [t] ++ xs, sgn s r2) := this
            show _ = _
            rw [this']; simp
        · rw [h1, h2]
          show _ = _
          simp
theorem skipGo_le (l : List UInt8) : ∀ b, skipGo b l ≤ l.length := by
  induction l with
  | nil => intro b; cases b <;> exact Nat.le_refl _
  | cons c t ih =>
    intro b
    cases b with
    | true => unfold skipGo; have h1 := ih true; have h2 := ih false; simp only [List.length_cons]; split <;> omega
    | false => unfold skipGo; have h1 := ih true; have h2 := ih false; simp only [List.length_cons]; repeat' split
               all_goals omega
theorem skipTo_le (l : List UInt8) (p : Nat) (h : p ≤ l.length) : skipTo l p ≤ l.length := by
  unfold skipTo
  have := skipGo_le (l.drop p) false
  rw [List.length_drop] at this; omega
theorem sign_le (l : List UInt8) (sg : List UInt8) (p q : Nat) (h : signF l sg p = some q) (h0 : 0 < sg.length) : q ≤ l.length := by
  unfold signF at h
  split at h
  · rename_i hs
    cases h
    apply skipTo_le
    unfold starts at hs
    have := (List.isPrefixOf_iff_prefix.1 hs).length_le
    rw [List.length_drop] at this
    omega
  · cases h
/-- the body's parts, and the sign behind them -/
def bodyF (l : List UInt8) (p : Nat) : Except PErr (List PPart × Nat) := match partsF l p with
  | .error e => .error e
  | .ok (b, r) => match signF l [46] r with
    | none => .error (2, r)
    | some r2 => .ok (b, r2)
theorem body_goes (s : ByteArray) (p : Nat) : Goes s (bodyF s.data.toList p) (partsS s (sgn s p)) := by
  have h := parts_goes s 12 [] p rfl
  unfold bodyF partsF partsS
  cases hr : listF (atPartB s.data.toList) (partF s.data.toList) (signF s.data.toList [44]) 12 p with
  | error er =>
    obtain ⟨e, x⟩ := er
    rw [hr] at h
    have hd : (pbodyS s 14 [] (sgn s p)).2.e ≠ 0 := by have := h.2.1; rw [this]; exact h.1
    refine ⟨h.1, ?_, ?_⟩
    · rw [mustS_dead s hd]; exact h.2.1
    · rw [mustS_dead s hd]; exact h.2.2
  | ok rr =>
    obtain ⟨xs, r2⟩ := rr
    rw [hr] at h
    have h' : pbodyS s 14 [] (sgn s p) = ([] ++ xs, sgn s r2) := h
    rw [h']
    simp only []
    rcases must_goes s r2 [46] (by simp) with ⟨r3, h4, h5⟩ | ⟨h4, h5⟩
    · rw [h4, h5]; rfl
    · rw [h4, h5]; exact ⟨by decide, rfl, rfl⟩
theorem rule_goes (s : ByteArray) (n p : Nat) (hn : n < 200) : Goes s (ruleF s.data.toList p) (ruleS s n (sgn s p)) := by
  unfold ruleF ruleS
  have h200 : ¬ (200 ≤ n ∧ (sgn s p).kd = 1) := by omega
  rw [if_neg h200]
  have ha := named_goes s p
  cases hf : atomF s.data.toList p with
  | error er =>
    obtain ⟨e, x⟩ := er
    rw [hf] at ha
    have hd : (namedS s (sgn s p)).2.e ≠ 0 := by have := ha.2.1; rw [this]; exact ha.1
    simp only [isS_dead hd, mustS_dead s hd]
    exact ha
  | ok r =>
    obtain ⟨h, q⟩ := r
    rw [hf] at ha
    have ha' : namedS s (sgn s p) = (h, sgn s q) := ha
    rw [ha']
    simp only []
    rcases sign_goes s q [58, 45] (by simp) with ⟨h1, r, h2, h3⟩ | ⟨h1, h2⟩
    · rw [h1, h2, h3]
      simp only [if_true]
      have hb := body_goes s r
      unfold bodyF at hb
      cases hp : partsF s.data.toList r with
      | error er => rw [hp] at hb; exact hb
      | ok rr =>
        obtain ⟨b, r3⟩ := rr
        rw [hp] at hb
        simp only [] at hb ⊢
        cases hg : signF s.data.toList [46] r3 with
        | none => rw [hg] at hb; exact hb
        | some r4 =>
          rw [hg] at hb
          have hb' : partsS s (sgn s r) = (b, sgn s r4) := hb
          rw [hb']; rfl
    · rw [h1, h2]
      simp only [Bool.false_eq_true, if_false]
      rcases must_goes s q [46] (by simp) with ⟨r3, h4, h5⟩ | ⟨h4, h5⟩
      · rw [h4, h5]; rfl
      · rw [h4, h5]; exact ⟨by decide, rfl, rfl⟩
theorem ruleF_le (l : List UInt8) (p : Nat) (r : PRule) (q : Nat) (h : ruleF l p = .ok (r, q)) : q ≤ l.length := by
  unfold ruleF at h
  split at h
  · cases h
  · rename_i hd q1 _
    split at h
    · cases h
    · rename_i b r1 _
      cases hs : signF l [46] r1 with
      | none => rw [hs] at h; cases h
      | some r2 =>
        rw [hs] at h
        simp only [Except.ok.injEq, Prod.mk.injEq] at h
        rw [← h.2]; exact sign_le l [46] r1 r2 hs (by simp)
theorem ruleF_not (l : List UInt8) (p : Nat) (h : atNameB l p = false) : ruleF l p = .error (2, p) := by
  unfold ruleF; rw [atomF_is, h]; rfl
theorem ruleS_dead (s : ByteArray) (n : Nat) {st : RSt} (h : st.e ≠ 0) : (ruleS s n st).2.e = st.e ∧ (ruleS s n st).2.x = st.x := by
  unfold ruleS
  have : (if 200 ≤ n ∧ st.kd = 1 then failS 7 st.a st else st) = st := by rw [failS_dead h]; split <;> rfl
  rw [this, namedS_dead s h]
  simp [isS_dead h, mustS_dead s h]
theorem rulesS_dead (s : ByteArray) (n : Nat) (acc : List PRule) {st : RSt} (h : st.e ≠ 0) : rulesS s n acc st = (acc, st) := by
  cases n with
  | zero => rfl
  | succ n => unfold rulesS; rw [if_neg (fun g => h g.1)]
theorem rulesS_step (s : ByteArray) (n : Nat) (acc : List PRule) (st : RSt) (h : st.e = 0) (h0 : ¬ st.kd = 0) : rulesS s (n + 1) acc st = rulesS s n (acc ++ [(ruleS s acc.length st).1]) (ruleS s acc.length st).2 := by
  rw [rulesS, if_pos ⟨h, h0⟩]
theorem rulesS_stop (s : ByteArray) (n : Nat) (acc : List PRule) (st : RSt) (h0 : st.kd = 0) : rulesS s n acc st = (acc, st) := by
  cases n with
  | zero => rfl
  | succ n => rw [rulesS, if_neg (fun g => g.2 h0)]
def GoesR (acc : List PRule) (F : Except PErr (List PRule × Nat)) (r : List PRule × RSt) : Prop := match F with
  | .error (e, x) => e ≠ 0 ∧ r.2.e = e ∧ r.2.x = x
  | .ok (v, _) => r.1 = acc ++ v ∧ r.2.e = 0
theorem rules_goes (s : ByteArray) : ∀ (n : Nat) (acc : List PRule) (p : Nat), acc.length + n = 200 → p < s.size →
    GoesR acc (listF (atNameB s.data.toList) (ruleF s.data.toList) (fun p => if p = s.data.toList.length then none else some p) n p) (rulesS s (n + 2) acc (sgn s p)) := by
  intro n
  induction n with
  | zero =>
    intro acc p hl hlt
    have h0 : ¬ (sgn s p).kd = 0 := by rw [sgn_kd0]; omega
    unfold listF
    rw [rulesS_step s _ acc _ (sgn_e s p) h0]
    have key : (if atNameB s.data.toList p then Except.error (7, p) else Except.error (2, p) : Except PErr (List PRule × Nat)) = .error ((ruleS s acc.length (sgn s p)).2.e, (ruleS s acc.length (sgn s p)).2.x) ∧ (ruleS s acc.length (sgn s p)).2.e ≠ 0 := by
      have hk := (kd_is s p).1
      unfold atNameB
      cases hn : isName (wordAt s.data.toList p) with
      | true =>
        have hd : (failS 7 p (sgn s p)).e ≠ 0 := by simp [failS]
        have e : ruleS s acc.length (sgn s p) = ruleS s acc.length (failS 7 p (sgn s p)) := by
          have e1 : (if 200 ≤ acc.length ∧ (sgn s p).kd = 1 then failS 7 (sgn s p).a (sgn s p) else sgn s p) = failS 7 p (sgn s p) := by rw [if_pos ⟨by omega, hk.2 hn⟩, sgn_a]
          have e2 : (if 200 ≤ acc.length ∧ (failS 7 p (sgn s p)).kd = 1 then failS 7 (failS 7 p (sgn s p)).a (failS 7 p (sgn s p)) else failS 7 p (sgn s p)) = failS 7 p (sgn s p) := by rw [failS_dead hd]; split <;> rfl
          unfold ruleS
          rw [e1, e2]
        rw [e, (ruleS_dead s _ hd).1, (ruleS_dead s _ hd).2]
        simp [failS]
      | false =>
        have h1 : ¬ (sgn s p).kd = 1 := by rw [hk, hn]; simp
        have ha := named_goes s p
        rw [atomF_is] at ha
        unfold atNameB at ha
        rw [hn] at ha
        have hd : (namedS s (sgn s p)).2.e ≠ 0 := by have := ha.2.1; rw [this]; decide
        have e : (ruleS s acc.length (sgn s p)).2 = (namedS s (sgn s p)).2 := by
          have e1 : (if 200 ≤ acc.length ∧ (sgn s p).kd = 1 then failS 7 (sgn s p).a (sgn s p) else sgn s p) = sgn s p := by rw [if_neg (fun g => h1 g.2)]
          unfold ruleS; rw [e1]; simp [isS_dead hd, mustS_dead s hd]
        rw [e, ha.2.1, ha.2.2]; simp
    rw [key.1, rulesS_dead s _ _ key.2]
    exact ⟨key.2, rfl, rfl⟩
  | succ n ih =>
    intro acc p hl hlt
    have h0 : ¬ (sgn s p).kd = 0 := by rw [sgn_kd0]; omega
    unfold listF
    rw [rulesS_step s _ acc _ (sgn_e s p) h0]
    have hr := rule_goes s acc.length p (by omega)
    cases ha : atNameB s.data.toList p with
    | false =>
      rw [ruleF_not _ _ ha] at hr
      have hd : (ruleS s acc.length (sgn s p)).2.e ≠ 0 := by rw [hr.2.1]; decide
      rw [rulesS_dead s _ _ hd]
      exact ⟨by decide, hr.2.1, hr.2.2⟩
    | true =>
      simp only [if_true]
      cases hf : ruleF s.data.toList p with
      | error er =>
        obtain ⟨e, x⟩ := er
        rw [hf] at hr
        have hd : (ruleS s acc.length (sgn s p)).2.e ≠ 0 := by have := hr.2.1; rw [this]; exact hr.1
        rw [rulesS_dead s _ _ hd]
        exact hr
      | ok rr =>
        obtain ⟨x, q⟩ := rr
        rw [hf] at hr
        have hr' : ruleS s acc.length (sgn s p) = (x, sgn s q) := hr
        rw [hr']
        have hle := ruleF_le _ _ _ _ hf
        have hsz : s.data.toList.length = s.size := by simp
        simp only []
        by_cases hq : q = s.data.toList.length
        · rw [if_pos hq]
          have : (sgn s q).kd = 0 := by rw [sgn_kd0, hq, hsz]; exact Nat.le_refl _
          rw [rulesS_stop s _ _ _ this]
          exact ⟨rfl, sgn_e s q⟩
        · rw [if_neg hq]
          have := ih (acc ++ [x]) q (by simp; omega) (by omega)
          cases hx : listF (atNameB s.data.toList) (ruleF s.data.toList) (fun p => if p = s.data.toList.length then none else some p) n q with
          | error er => simp only [hx]; rw [hx] at this; exact this
          | ok r2 =>
            obtain ⟨xs, r3⟩ := r2
            simp only [hx]
            rw [hx] at this
            have this' : _ = acc ++ [x] ++ xs ∧ _ = 0 := this
            exact ⟨by rw [this'.1]; simp, this'.2⟩
theorem start_next (s : ByteArray) : nextS s startS = sgn s (skipTo s.data.toList 0) := next_sgn s 0 0 _ 0
/-- D1, D2: the document's reader reads what the grammar says -/
theorem readRules_is (s : ByteArray) : readRulesS s = parseF s.data.toList := by
  have hsz : s.data.toList.length = s.size := by simp
  unfold readRulesS parseF
  rw [hsz]
  by_cases h : 20000 < s.size
  · rw [if_pos h, if_pos h]
  · rw [if_neg h, if_neg h, start_next]
    have hle := skipTo_le s.data.toList 0 (Nat.zero_le _)
    by_cases h0 : skipTo s.data.toList 0 = s.size
    · rw [if_pos h0]
      have hk : (sgn s (skipTo s.data.toList 0)).kd = 0 := by rw [sgn_kd0, h0]; exact Nat.le_refl _
      have : rulesS s 202 [] (sgn s (skipTo s.data.toList 0)) = ([], sgn s (skipTo s.data.toList 0)) := by
        exact rulesS_stop s _ _ _ hk
      rw [this]; simp
    · rw [if_neg h0]
      have := rules_goes s 200 [] (skipTo s.data.toList 0) rfl (by omega)
      rw [hsz] at this
      cases hx : listF (atNameB s.data.toList) (ruleF s.data.toList) (fun p => if p = s.size then none else some p) 200 (skipTo s.data.toList 0) with
      | error er =>
        obtain ⟨e, x⟩ := er
        rw [hx] at this
        have hd : ¬ (rulesS s 202 [] (sgn s (skipTo s.data.toList 0))).2.e = 0 := by have g := this.2.1; rw [g]; exact this.1
        simp only [if_neg hd]
        rw [this.2.1, this.2.2]
      | ok r2 =>
        obtain ⟨xs, r3⟩ := r2
        rw [hx] at this
        have h1 : (rulesS s 202 [] (sgn s (skipTo s.data.toList 0))).1 = [] ++ xs := this.1
        have h2 : (rulesS s 202 [] (sgn s (skipTo s.data.toList 0))).2.e = 0 := this.2
        simp only [if_pos h2]
        rw [h1]; rfl
theorem readQuery_is (s : ByteArray) : readQueryS s = queryF s.data.toList := by
  have hsz : s.data.toList.length = s.size := by simp
  unfold readQueryS queryF
  rw [hsz]
  by_cases h : 20000 < s.size
  · rw [if_pos h, if_pos h]
  · rw [if_neg h, if_neg h, start_next]
    have hb := body_goes s (skipTo s.data.toList 0)
    unfold bodyF at hb
    cases hp : partsF s.data.toList (skipTo s.data.toList 0) with
    | error er =>
      obtain ⟨e, x⟩ := er
      rw [hp] at hb
      have hd : ¬ (partsS s (sgn s (skipTo s.data.toList 0))).2.e = 0 := by have g := hb.2.1; rw [g]; exact hb.1
      simp only [failS_dead hd]
      have e2 : (if (partsS s (sgn s (skipTo s.data.toList 0))).2.kd = 0 then (partsS s (sgn s (skipTo s.data.toList 0))).2 else (partsS s (sgn s (skipTo s.data.toList 0))).2) = (partsS s (sgn s (skipTo s.data.toList 0))).2 := by split <;> rfl
      rw [e2, if_neg hd, hb.2.1, hb.2.2]
    | ok rr =>
      obtain ⟨b, r⟩ := rr
      rw [hp] at hb
      simp only [] at hb ⊢
      cases hg : signF s.data.toList [46] r with
      | none =>
        rw [hg] at hb
        have hd : ¬ (partsS s (sgn s (skipTo s.data.toList 0))).2.e = 0 := by have g := hb.2.1; rw [g]; exact hb.1
        simp only [failS_dead hd]
        have e2 : (if (partsS s (sgn s (skipTo s.data.toList 0))).2.kd = 0 then (partsS s (sgn s (skipTo s.data.toList 0))).2 else (partsS s (sgn s (skipTo s.data.toList 0))).2) = (partsS s (sgn s (skipTo s.data.toList 0))).2 := by split <;> rfl
        rw [e2, if_neg hd, hb.2.1, hb.2.2]
      | some r2 =>
        rw [hg] at hb
        have hb' : partsS s (sgn s (skipTo s.data.toList 0)) = (b, sgn s r2) := hb
        rw [hb']
        have hle := sign_le _ _ _ _ hg (by simp)
        simp only []
        by_cases hr : r2 = s.size
        · have hk : (sgn s r2).kd = 0 := by rw [sgn_kd0, hr]; exact Nat.le_refl _
          rw [if_pos hk, if_pos hr, if_pos (sgn_e s r2)]
        · have hk : ¬ (sgn s r2).kd = 0 := by rw [sgn_kd0]; omega
          rw [if_neg hk, if_neg hr]
          simp [failS]
end Go.Proofs.YtgllfcoafgphbaaGreatDoor
