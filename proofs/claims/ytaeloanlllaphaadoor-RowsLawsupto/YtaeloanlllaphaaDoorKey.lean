/-
  The program's key, walked.
-/
import Derived.Test.YtaeloanlllaphaaDoorKeyL
import Derived.Test.YtaeloanlllaphaaDoorShelf
import Derived.Test.YtaeloanlllaphaaDoorKeyBuild
import Derived.Lib.Builder
import Derived.Lib.SmallJoins
namespace Go.Proofs.YtaeloanlllaphaaDoor
open Go.ChangeShapes Go.WideShapes Go.ChangeAt Go.RowKit
set_option linter.unusedVariables false
abbrev Tab (w : World) : Prop := Lib.TabIs Tryd.prog w "internal/strconv.uint64pow10" .u64 Lib.pow10Tab
theorem Tab.kept {w w' : World} (h : Tab w) (hb : Below w.heap.size w w') : Tab w' := Go.Joins.tab_stays (g := 0) (by kernel_rfl) h hb (Nat.le_refl _)
theorem grown_grow (w : World) (os : Array Obj) : w.grownBy (Sort.grow w os) none := ⟨rfl, rfl, rfl, by simp [Sort.grow], fun k hk _ => Sort.heap_grow_old _ _ hk⟩
theorem itoa_any (n : Nat) (w : World) (hn : n ≤ 1099511627776) (ht : Tab w) :
    Calls Tryd.prog 39 #[.int .i64 n] w fun e w' => e = .returned (.string (str (Lib.decDigits n))) ∧ w.grownBy w' none := by
  refine (Tryd.strconv_Itoa n (by omega) (by omega) w ht).mono ?_
  rintro e w' ⟨rfl, k, os, rfl⟩
  refine ⟨?_, (grown_draws k).trans (grown_grow _ os)⟩
  rw [show Lib.itoa (n : Int) = Lib.decDigits n from by unfold Lib.itoa; rw [if_neg (by omega)]; simp]; rfl
/-- a builder of one's own that holds bytes -/
def KB (B b : Nat) (l : List UInt8) (w : World) : Prop := Lib.IsBuilder 59 5 B b (bs l) w ∧ B ≤ w.heap.size
theorem kb_at {T e : TypeId} {B b : Nat} {p : Value} {xs : List Value} {w w' : World} (h : Lib.BuilderAt T e B b p xs w) (hg : w.grownBy w' none) : Lib.BuilderAt T e B b p xs w' := by
  have hlt := h.lt
  obtain ⟨hB, v, hb, ho, hne⟩ := h
  exact ⟨hB, v, by rw [hg.block b hlt (by simp)]; exact hb, ho.kept hg (by
    cases hv : v.ownBlock with
    | none => exact Or.inl rfl
    | some g => exact Or.inr (by simp)), hne⟩
theorem KB.kept {B b : Nat} {l : List UInt8} {w w' : World} (h : KB B b l w) (hg : w.grownBy w' none) : KB B b l w' :=
  ⟨h.1.imp (fun h => kb_at h hg) (fun h => kb_at h hg), Nat.le_trans h.2 hg.size⟩
theorem kwrite_any (B b : Nat) (l : List UInt8) (s : ByteArray) (w : World) (h : KB B b l w) (hl : l.length + s.size ≤ 140737488355328) :
    Calls Tryd.prog 38 #[.pointer (some ⟨b, 0, none⟩), .string s] w fun e w' => e = .returned (.tuple #[.int .i64 s.size, .nilIface]) ∧ KB B b (l ++ s.data.toList) w' ∧ Below B w w' := by
  refine (qwrite_any B b l s w h.1 hl h.2).mono ?_
  rintro e w' ⟨rfl, h1, hb⟩
  exact ⟨rfl, ⟨h1, Nat.le_trans h.2 hb.size⟩, hb⟩
theorem kbyte_any (B b : Nat) (l : List UInt8) (c : UInt8) (w : World) (h : KB B b l w) (hl : l.length + 1 ≤ 140737488355328) :
    Calls Tryd.prog 40 #[.pointer (some ⟨b, 0, none⟩), .int .u8 (c.toNat : Int)] w fun e w' => e = .returned .nilIface ∧ KB B b (l ++ [c]) w' ∧ Below B w w' := by
  refine (qbyte_any B b l c w h.1 hl h.2).mono ?_
  rintro e w' ⟨rfl, h1, hb⟩
  exact ⟨rfl, ⟨h1, Nat.le_trans h.2 hb.size⟩, hb⟩
theorem kstring_any (B b : Nat) (l : List UInt8) (w : World) (h : KB B b l w) :
    Calls Tryd.prog 41 #[.pointer (some ⟨b, 0, none⟩)] w fun e w' => e = .returned (.string (str l)) ∧ Below B w w' :=
  Tryd.Builder_String_any B b l w h.1 h.2
set_option maxRecDepth 100000 in
set_option maxHeartbeats 1000000 in
theorem key_any (v : Value) (row : List (List UInt8)) (w : World) (h : Strs w v row) (ht : Tab w) (hl : row.length ≤ 1048576) (hs : ∀ t ∈ row, t.length ≤ 1048576) :
    Calls Tryd.prog 24 #[v] w fun e w' => e = .returned (.string (str (keyL row))) ∧ Below w.heap.size w w' := by
  have HS : Hid (∀ t ∈ row, t.length ≤ 1048576) := hs
  have HKL : Hid ((keyL row).length ≤ 1099536796000) := by
    have := keyL_len row hs
    have h2 : row.length * 1048600 ≤ 1048576 * 1048600 := Nat.mul_le_mul_right _ hl
    show _ ≤ _; omega
  have HT : Hid (Tab w) := ht
  obtain ⟨a, cap, rfl, ha⟩ := h
  have HA : Hid (∀ k (hk : k < row.length), ∃ b off, a = some ⟨b, off, none⟩ ∧ w.cell? ⟨b, off + k, none⟩ = some (.string (str row[k])) ∧ b < w.heap.size) := by
    intro k hk
    rcases ha with ⟨rfl, _⟩ | ⟨b, off, rfl, hc⟩
    · simp at hk
    · exact ⟨b, off, rfl, hc k _ (get_at hk), World.block_lt_of_cell? w ⟨b, off + k, none⟩ (hc k _ (get_at hk))⟩
  clear ha hs ht
  go_enter Tryd.func24, Tryd.ntmps24
  go_wp2
  have HK0 : Hid (KB w.heap.size w.heap.size [] (w.alloc (.cells #[.pointer none, .slice none 0 0] 59))) := ⟨Lib.fresh_isBuilder _ _ w, by simp⟩
  have HB0 : Hid (Below w.heap.size w (w.alloc (.cells #[.pointer none, .slice none 0 0] 59))) := (Below.refl _ _).alloc (Nat.le_refl _) _
  generalize World.alloc w _ = w0 at *
  go_loopw [8] (fun iv wr => ∃ k : Nat, k ≤ row.length ∧ iv = .int .i64 k ∧ Hid (KB w.heap.size w.heap.size (keyL (row.take k)) wr) ∧ Hid (Below w.heap.size w wr)) (fun iv _ => row.length - (intOf iv).toNat)
  case atStart => exact ⟨0, by omega, rfl, HK0, HB0⟩
  case round =>
    obtain ⟨k, hk, rfl, HKB, HB⟩ := hrel
    have hpt := keyL_part row k
    by_cases hlt : k < row.length
    · obtain ⟨b, off, rfl, c0, hbw⟩ := HA.out k hlt
      have cx := (HB.out.cell (p := ⟨b, off + k, none⟩) hbw).trans c0
      have htl : row[k].length ≤ 1048576 := HS.out _ (List.getElem_mem hlt)
      have hpn := keyL_part row (k + 1)
      have HN : Hid (keyL (row.take (k + 1)) = keyL (row.take k) ++ keyT row[k]) := keyL_next row k hlt
      have hsum : (keyL (row.take k)).length + (Lib.decDigits row[k].length).length + 1 + row[k].length ≤ 1099536796000 := by
        have h1 := HKL.out
        rw [HN.out, List.length_append] at hpn
        simp only [keyT, List.length_append, List.length_cons] at hpn
        omega
      clear c0 hpt hpn
      obtain ⟨t, HTT⟩ : ∃ t, Hid (t = row[k]) := ⟨row[k], rfl⟩
      rw [← HTT.out] at cx htl hsum HN
      obtain ⟨st, HST⟩ : ∃ st, Hid (st = str t) := ⟨str t, rfl⟩
      rw [← HST.out] at cx
      have hsz : st.size = t.length := by rw [HST.out, str_size]
      obtain ⟨L0, HL0⟩ : ∃ L0, Hid (L0 = keyL (row.take k)) := ⟨_, rfl⟩
      rw [← HL0.out] at HKB hsum HN
      have HIT : Hid (Calls Tryd.prog 39 #[.int .i64 t.length] wr fun e w' => e = .returned (.string (str (Lib.decDigits t.length))) ∧ wr.grownBy w' none) := by
        exact itoa_any t.length wr (by omega) (HT.out.kept HB.out)
      go_wp2_with fail
      refine HIT.out.mono ?_
      rintro e w1 ⟨rfl, hg1⟩
      have HKB1 : Hid (KB w.heap.size w.heap.size L0 w1) := HKB.out.kept hg1
      have HB1 : Hid (Below w.heap.size w w1) := HB.out.grown hg1 HB.out.size (fun k hk => by cases hk)
      obtain ⟨sd, HSD⟩ : ∃ sd, Hid (sd = str (Lib.decDigits t.length)) := ⟨_, rfl⟩
      rw [← HSD.out]
      clear hg1 HIT
      go_wp2_with fail
      refine (kwrite_any _ _ L0 sd _ HKB1.out (by rw [HSD.out, str_size]; omega)).mono ?_
      rintro e w2 ⟨rfl, hkb2, hb2⟩
      have HKB2 : Hid (KB w.heap.size w.heap.size (L0 ++ Lib.decDigits t.length) w2) := by rw [HSD.out, data_str] at hkb2; exact hkb2
      have HB2 : Hid (Below w.heap.size w w2) := HB1.out.trans hb2
      clear hkb2 hb2
      go_wp2_with fail
      refine (kbyte_any _ _ _ 58 _ HKB2.out (by rw [List.length_append]; omega)).mono ?_
      rintro e w3 ⟨rfl, hkb3, hb3⟩
      have HKB3 : Hid (KB w.heap.size w.heap.size (L0 ++ Lib.decDigits t.length ++ [58]) w3) := hkb3
      have HB3 : Hid (Below w.heap.size w w3) := HB2.out.trans hb3
      clear hkb3 hb3
      go_wp2_with fail
      refine (kwrite_any _ _ _ st _ HKB3.out (by rw [List.length_append, List.length_append]; simp only [List.length_singleton]; omega)).mono ?_
      rintro e w4 ⟨rfl, hkb4, hb4⟩
      have HKB4 : Hid (KB w.heap.size w.heap.size (keyL (row.take (k + 1))) w4) := by
        show KB _ _ _ _
        rw [HN.out, keyT]
        rw [HST.out, data_str] at hkb4
        simpa using hkb4
      have HB4 : Hid (Below w.heap.size w w4) := HB3.out.trans hb4
      clear hkb4 hb4
      go_wp2
      go_roundw
      case rel => exact ⟨k + 1, by omega, by go_num, HKB4, HB4⟩
      case measure => simp [intOf]; omega
    · have HE : Hid (keyL (row.take k) = keyL row) := by show _ = _; rw [List.take_of_length_le (by omega)]
      rw [HE.out] at HKB
      clear hpt
      go_wp2_with fail
      refine (kstring_any _ _ _ _ HKB.out).mono ?_
      rintro e w5 ⟨rfl, hb5⟩
      have HB5 : Hid (Below w.heap.size w w5) := HB.out.trans hb5
      clear hb5
      go_wp2
      go_ret
      exact ⟨rfl, HB5.out⟩
end Go.Proofs.YtaeloanlllaphaaDoor
