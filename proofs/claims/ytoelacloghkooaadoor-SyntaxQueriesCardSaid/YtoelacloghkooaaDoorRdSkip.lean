/-
  The document's Reader: skip, walked.
-/
import Derived.Test.YtoelacloghkooaaDoorGrammar
import Derived.Test.YtoelacloghkooaaDoorBase
namespace Go.Proofs.YtoelacloghkooaaDoor
open Go.ChangeShapes Go.WideShapes Go.ChangeAt Go.RowKit
set_option linter.unusedVariables false
/-- a reader's text and where it stands -/
structure Rd (w : World) (b : Nat) (s : ByteArray) (i : Int) : Prop where
  c0 : w.cell? ⟨b, 0, none⟩ = some (.string s)
  c1 : w.cell? ⟨b, 1, none⟩ = some (.int .i64 i)
  f1 : w.frozen? ⟨b, 1, none⟩ = false
/-- what turns of a world is the reader's place alone -/
structure RFr (w w' : World) (b : Nat) : Prop where
  os : w'.os = w.os
  tape : w'.tape = w.tape
  output : w'.output = w.output
  size : w'.heap.size = w.heap.size
  block : ∀ k, k ≠ b → w'.heap[k]? = w.heap[k]?
  cell : ∀ j, j ≠ 1 → w'.cell? ⟨b, j, none⟩ = w.cell? ⟨b, j, none⟩
  frozen : ∀ j, w'.frozen? ⟨b, j, none⟩ = w.frozen? ⟨b, j, none⟩
theorem RFr.refl (w : World) (b : Nat) : RFr w w b := ⟨rfl, rfl, rfl, rfl, fun _ _ => rfl, fun _ _ => rfl, fun _ => rfl⟩
theorem RFr.trans {w w' w'' : World} {b : Nat} (h : RFr w w' b) (k : RFr w' w'' b) : RFr w w'' b :=
  ⟨k.os.trans h.os, k.tape.trans h.tape, k.output.trans h.output, k.size.trans h.size, fun j hj => (k.block j hj).trans (h.block j hj), fun j hj => (k.cell j hj).trans (h.cell j hj), fun j => (k.frozen j).trans (h.frozen j)⟩
theorem RFr.draws (w : World) (b n : Nat) : RFr w (w.drewN n) b := ⟨rfl, rfl, rfl, rfl, fun _ _ => rfl, fun _ _ => rfl, fun _ => rfl⟩
theorem RFr.set (w : World) (b : Nat) (u : Value) : RFr w (w.setCell ⟨b, 1, none⟩ u) b :=
  ⟨rfl, rfl, rfl, by simp [World.setCell], fun k hk => Below.heap_setCell w ⟨b, 1, none⟩ u k hk, fun j hj => World.cell?_setCell_other _ _ _ _ (by intro e; cases e; exact hj rfl), fun j => by rw [World.frozen?_setCell]⟩
theorem Rd.set {w : World} {b : Nat} {s : ByteArray} {i : Int} (h : Rd w b s i) (j : Int) : Rd (w.setCell ⟨b, 1, none⟩ (.int .i64 j)) b s j :=
  ⟨by rw [World.cell?_setCell_other _ _ _ _ (by simp)]; exact h.c0, World.cell?_setCell_same _ _ _ h.c1, by rw [World.frozen?_setCell]; exact h.f1⟩
theorem Rd.drewN {w : World} {b : Nat} {s : ByteArray} {i : Int} (h : Rd w b s i) (n : Nat) : Rd (w.drewN n) b s i := ⟨h.c0, h.c1, h.f1⟩
theorem drop_byte (s : ByteArray) (k : Nat) (h : k < s.size) : s.data.toList.drop k = s[k] :: s.data.toList.drop (k + 1) := by
  rw [List.drop_eq_getElem_cons (by simpa using h)]; rfl
theorem skip_end (s : ByteArray) (p : Nat) (h : s.size ≤ p) (b : Bool) : skipGo b (s.data.toList.drop p) = 0 := by
  rw [List.drop_eq_nil_of_le (by simpa using h)]; cases b <;> rfl
/-- where a reader stands -/
def placeOf (w : World) (b : Nat) : Nat := match w.cell? ⟨b, 1, none⟩ with
  | some (.int _ i) => i.toNat
  | _ => 0
theorem placeOf_set {w : World} {b : Nat} {s : ByteArray} {j : Int} (h : Rd w b s j) (i : Int) : placeOf (w.setCell ⟨b, 1, none⟩ (.int .i64 i)) b = i.toNat := by unfold placeOf; rw [(h.set i).c1]
theorem placeOf_rd {w : World} {b : Nat} {s : ByteArray} {k : Nat} (h : Rd w b s (k : Nat)) : placeOf w b = k := by unfold placeOf; rw [h.c1]; rfl
set_option maxRecDepth 100000 in
set_option maxHeartbeats 1000000 in
theorem rskip_any (b : Nat) (s : ByteArray) (p : Nat) (w : World) (h : Rd w b s p) (hp : p ≤ s.size) (hs : s.size ≤ 1073741824) :
    Calls Tryd.prog 33 #[.pointer (some ⟨b, 0, none⟩)] w fun e w' => e = .returned (.tuple #[]) ∧ Rd w' b s (skipTo s.data.toList p : Nat) ∧ RFr w w' b := by
  have HR : Hid (Rd w b s p) := h
  obtain ⟨c0, c1, f1⟩ := h
  go_enter Tryd.func33, Tryd.ntmps33
  go_wp2
  go_loopw [2] (fun _ wr => ∃ q : Nat, q ≤ s.size ∧ Hid (Rd wr b s q) ∧ Hid (RFr w wr b) ∧ Hid (skipTo s.data.toList p = skipTo s.data.toList q)) (fun _ wr => s.size + 1 - placeOf wr b)
  case atStart => exact ⟨p, hp, HR, RFr.refl _ _, (rfl : _ = _)⟩
  case round =>
    obtain ⟨q, hq, HQ, HF, HS⟩ := hrel
    obtain ⟨c0, c1, f1⟩ := HQ.out
    have HPQ : Hid (placeOf wr b = q) := placeOf_rd HQ.out
    by_cases hlt : q < s.size
    · have hc := byte_le s[q]
      have HD : Hid (s.data.toList.drop q = s[q] :: s.data.toList.drop (q + 1)) := drop_byte s q hlt
      by_cases h37 : s[q].toNat = 37
      · have HS2 : Hid (skipTo s.data.toList q = q + skipGo true (s.data.toList.drop q)) := by
          show _ = _
          unfold skipTo
          rw [HD.out, skipGo, skipGo]
          have e : s[q] = 37 := by apply UInt8.toNat_inj.1; rw [h37]; rfl
          rw [e]; simp
        have e37 : ((s[q].toNat : Int) == 37) = true := by simp [h37]
        go_wp2_with fail
        go_quiet (fail)
        go_wp2_with fail
        go_quiet (fail)
        go_wp2
        go_loopw [24] (fun _ wx => ∃ k : Nat, q ≤ k ∧ k ≤ s.size ∧ Hid (Rd wx b s k) ∧ Hid (RFr w wx b) ∧ Hid (skipTo s.data.toList q = k + skipGo true (s.data.toList.drop k))) (fun _ wx => s.size - placeOf wx b)
        case atStart => exact ⟨q, Nat.le_refl _, hq, HQ.out.drewN _, HF.out.trans (RFr.draws _ _ _), HS2⟩
        case round =>
          obtain ⟨k, hqk, hk, HK, HFK, HSK⟩ := hrel
          obtain ⟨d0, d1, g1⟩ := HK.out
          have HPL : Hid (placeOf wr b = k) := placeOf_rd HK.out
          clear c0 c1 f1
          by_cases hkl : k < s.size
          · have hck := byte_le s[k]
            have HDK : Hid (s.data.toList.drop k = s[k] :: s.data.toList.drop (k + 1)) := drop_byte s k hkl
            by_cases h10 : s[k].toNat = 10
            · have e10 : ((s[k].toNat : Int) == 10) = true := by simp [h10]
              have hne : q < k := by
                rcases Nat.eq_or_lt_of_le hqk with e | e
                · subst e; omega
                · exact e
              have HSN : Hid (skipTo s.data.toList p = skipTo s.data.toList k) := by
                show _ = _
                rw [HS.out, HSK.out]
                unfold skipTo
                have e : s[k] = 10 := by apply UInt8.toNat_inj.1; rw [h10]; rfl
                rw [HDK.out, e, skipGo, skipGo]; simp
              clear h10 h37
              go_wp2_with fail
              go_quiet (fail)
              go_wp2
              go_roundw
              case rel => exact ⟨k, hk, HK.out.drewN _, HFK.out.trans (RFr.draws _ _ _), HSN⟩
              case measure => rw [placeOf_rd (HK.out.drewN _), HPQ.out]; omega
            · have e10 : ((s[k].toNat : Int) == 10) = false := by simp; omega
              have HSN : Hid (skipTo s.data.toList q = k + 1 + skipGo true (s.data.toList.drop (k + 1))) := by
                show _ = _
                rw [HSK.out, HDK.out, skipGo, if_neg (fun e => h10 (by rw [e]; rfl))]; omega
              clear h10 h37
              go_wp2_with fail
              go_quiet (fail)
              go_wp2
              go_roundw
              case rel => exact ⟨k + 1, by omega, by omega, (HK.out.drewN _).set _, (HFK.out.trans (RFr.draws _ _ _)).trans (RFr.set _ _ _), HSN⟩
              case measure => rw [placeOf_set (HK.out.drewN _), HPL.out]; omega
          · have hke : k = s.size := by omega
            have HSN : Hid (skipTo s.data.toList p = skipTo s.data.toList k) := by
              show _ = _
              rw [HS.out, HSK.out]
              unfold skipTo
              rw [skip_end s k (by omega), skip_end s k (by omega)]
            have hne : q < k := by omega
            clear h37
            go_wp2_with fail
            go_quiet (fail)
            go_wp2
            go_roundw
            case rel => exact ⟨k, hk, HK.out.drewN _, HFK.out.trans (RFr.draws _ _ _), HSN⟩
            case measure => rw [placeOf_rd (HK.out.drewN _), HPQ.out]; omega
      · have e37 : ((s[q].toNat : Int) == 37) = false := by simp; omega
        by_cases hbl : s[q].toNat = 32 ∨ s[q].toNat = 9 ∨ s[q].toNat = 10
        · have HSN : Hid (skipTo s.data.toList p = skipTo s.data.toList (q + 1)) := by
            show _ = _
            rw [HS.out]
            unfold skipTo
            have e : s[q] = 32 ∨ s[q] = 9 ∨ s[q] = 10 := by
              rcases hbl with h5 | h5 | h5
              · exact Or.inl (by apply UInt8.toNat_inj.1; rw [h5]; rfl)
              · exact Or.inr (Or.inl (by apply UInt8.toNat_inj.1; rw [h5]; rfl))
              · exact Or.inr (Or.inr (by apply UInt8.toNat_inj.1; rw [h5]; rfl))
            rw [HD.out, skipGo, if_pos e]; omega
          have hcase : ((s[q].toNat : Int) != 32) = false ∨ (((s[q].toNat : Int) != 32) = true ∧ ((s[q].toNat : Int) != 9) = false) ∨ (((s[q].toNat : Int) != 32) = true ∧ ((s[q].toNat : Int) != 9) = true ∧ ((s[q].toNat : Int) != 10) = false) := by
            rcases hbl with h5 | h5 | h5
            · exact Or.inl (by simp [h5])
            · exact Or.inr (Or.inl ⟨by simp [h5], by simp [h5]⟩)
            · exact Or.inr (Or.inr ⟨by simp [h5], by simp [h5], by simp [h5]⟩)
          clear hbl h37
          rcases hcase with g1 | ⟨g1, g2⟩ | ⟨g1, g2, g3⟩
          all_goals
            go_wp2_with fail
            go_quiet (fail)
            go_wp2_with fail
            go_quiet (fail)
            go_wp2
            go_roundw
            case rel => exact ⟨q + 1, by omega, (HQ.out.drewN _).set _, (HF.out.trans (RFr.draws _ _ _)).trans (RFr.set _ _ _), HSN⟩
            case measure => rw [placeOf_set (HQ.out.drewN _), HPQ.out]; omega
        · have HSN : Hid (skipTo s.data.toList p = q) := by
            show _ = _
            rw [HS.out]
            unfold skipTo
            rw [HD.out, skipGo, if_neg (fun e => hbl (by rcases e with e | e | e <;> rw [e] <;> decide)), if_neg (fun e => h37 (by rw [e]; rfl))]; rfl
          have g1 : ((s[q].toNat : Int) != 32) = true := by rw [bne_iff_ne]; omega
          have g2 : ((s[q].toNat : Int) != 9) = true := by rw [bne_iff_ne]; omega
          have g3 : ((s[q].toNat : Int) != 10) = true := by rw [bne_iff_ne]; omega
          clear hbl h37
          go_wp2_with fail
          go_quiet (fail)
          go_wp2_with fail
          go_quiet (fail)
          go_wp2
          refine bodyPost_ret (results_none rfl _ _ _) rfl ?_
          exact ⟨rfl, by rw [HSN.out]; exact HQ.out.drewN _, HF.out.trans (RFr.draws _ _ _)⟩
    · have HSN : Hid (skipTo s.data.toList p = q) := by
        show _ = _
        rw [HS.out]
        unfold skipTo
        rw [skip_end s q (by omega)]; rfl
      go_wp2_with fail
      go_quiet (fail)
      go_wp2
      go_end0
      exact ⟨rfl, by rw [HSN.out]; exact HQ.out.drewN _, HF.out.trans (RFr.draws _ _ _)⟩
end Go.Proofs.YtoelacloghkooaaDoor
