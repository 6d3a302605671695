import Derived.Test.YtnnldpccagajbaaGreatDoorM04
/-
  The program's words.Build, words.Open and words.Find, walked.
-/
namespace Go.Proofs.YtnnldpccagajbaaGreatDoor
open Go.ChangeShapes Go.WideShapes Go.ChangeAt Go.RowKit
set_option linter.unusedVariables false
set_option maxRecDepth 100000 in
set_option maxHeartbeats 1000000 in
theorem common_any (s t : ByteArray) (w : World) (hs : s.size ≤ 140737488355328) (ht : t.size ≤ 140737488355328) :
    Calls Tryz.prog 101 #[.string s, .string t] w fun e w' => e = .returned (.int .i64 (common s.data.toList t.data.toList)) ∧ ∃ n, w' = w.drewN n := by
  go_enter Tryz.func101, Tryz.ntmps101
  go_wp2
  go_loopw [5] (fun i wr => ∃ k n : Nat, k ≤ s.size ∧ k ≤ t.size ∧ i = .int .i64 k ∧ wr = w.drewN n ∧ Hid (s.data.toList.take k = t.data.toList.take k)) (fun i _ => s.size - (intOf i).toNat)
  case atStart => exact ⟨0, 0, by omega, by omega, rfl, rfl, by simp [Hid]⟩
  case round =>
    obtain ⟨k, n, hk1, hk2, rfl, rfl, HT⟩ := hrel
    have fin : ∀ (hs : s.size = k ∨ t.size = k ∨ s.data.toList[k]? ≠ t.data.toList[k]?), common s.data.toList t.data.toList = k := fun h => common_stop _ _ k HT.out (by simpa using hk1) (by simpa using hk2) (by simpa using h)
    have FIN : Hid (∀ (hs : s.size = k ∨ t.size = k ∨ s.data.toList[k]? ≠ t.data.toList[k]?), common s.data.toList t.data.toList = k) := fin
    clear fin
    by_cases hlt : k < s.size
    · by_cases hlt2 : k < t.size
      · have hc1 := byte_le s[k]
        have hc2 := byte_le t[k]
        by_cases he : s[k] = t[k]
        · have hb : ((s[k].toNat : Int) == (t[k].toNat : Int)) = true := by rw [he]; simp
          have HE : Hid (s.data.toList.take (k + 1) = t.data.toList.take (k + 1)) := by show _ = _; rw [take_byte s k hlt, take_byte t k hlt2, HT.out, he]
          clear he
          go_wp2
          go_quiet (fail)
          go_wp2
          go_roundw
          case rel => exact ⟨k + 1, _, by omega, by omega, by go_num, rfl, HE⟩
          case measure => simp [intOf]; omega
        · have hb : ((s[k].toNat : Int) == (t[k].toNat : Int)) = false := by
            rw [beq_eq_false_iff_ne]
            intro h
            exact he (UInt8.toNat_inj.1 (by omega))
          have HE : Hid (common s.data.toList t.data.toList = k) := FIN.out (Or.inr (Or.inr (by rw [byte_get s k hlt, byte_get t k hlt2]; simpa using he)))
          clear he
          go_wp2
          go_quiet (fail)
          go_wp2
          go_ret
          refine ⟨ret_int (by rw [HE.out]), ?_⟩
          first | exact ⟨_, rfl⟩ | exact two_draws _ _ _
      · have hd : decide ((k : Int) < (t.size : Int)) = false := by simp; omega
        have HE : Hid (common s.data.toList t.data.toList = k) := FIN.out (Or.inr (Or.inl (by omega)))
        go_wp2
        go_quiet (fail)
        go_wp2
        go_ret
        refine ⟨ret_int (by rw [HE.out]), ?_⟩
        first | exact ⟨_, rfl⟩ | exact two_draws _ _ _
    · have hd : decide ((k : Int) < (s.size : Int)) = false := by simp; omega
      have HE : Hid (common s.data.toList t.data.toList = k) := FIN.out (Or.inl (by omega))
      go_wp2
      go_quiet (fail)
      go_wp2
      go_ret
      refine ⟨ret_int (by rw [HE.out]), ?_⟩
      first | exact ⟨_, rfl⟩ | exact two_draws _ _ _
theorem common_at (s t : ByteArray) (w : World) (hs : s.size ≤ 140737488355328) (ht : t.size ≤ 140737488355328) :
    Calls Tryz.prog 101 #[.string s, .string t] w fun e w' => ∃ n : Nat, e = .returned (.int .i64 n) ∧ n ≤ t.size ∧ Hid (n = common s.data.toList t.data.toList) ∧ Hid (∃ m, w' = w.drewN m) := by
  refine (common_any s t w hs ht).mono ?_
  rintro e w' ⟨rfl, h⟩
  exact ⟨_, rfl, by have := (common_le s.data.toList t.data.toList).2; simpa using this, rfl, h⟩
theorem enc_cons (p t : List UInt8) (r : List (List UInt8)) : enc p (t :: r) = part p t ++ enc t r := rfl
theorem Wr.drewN {w : World} {b : Nat} {l : List UInt8} (h : Wr w b l) (n : Nat) : Wr (w.drewN n) b l := h.kept (below_drewN (Below.refl _ _) n)
set_option maxRecDepth 100000 in
set_option maxHeartbeats 2000000 in
theorem write_any (v : Value) (l : List (List UInt8)) (w : World) (h : Strs w v l) (hl : l.length ≤ 1073741824) (hg : ∀ t ∈ l, t.length ≤ 200) :
    Calls Tryz.prog 83 #[v] w fun e w' => e = .returned (.string (str (vb l.length ++ enc [] l))) ∧ Below w.heap.size w w' := by
  obtain ⟨a, cap, rfl, h⟩ := h
  have hvl := vb_length9 l.length (by omega)
  have H : Hid ((l = [] ∧ (a = none → cap = 0)) ∨ ∃ b off, a = some ⟨b, off, none⟩ ∧ ∀ (i : Nat) (x : List UInt8), l[i]? = some x → w.cell? ⟨b, off + i, none⟩ = some (.string (str x))) := h
  have HG : Hid (∀ t ∈ l, t.length ≤ 200) := hg
  clear h hg
  go_enter Tryz.func83, Tryz.ntmps83
  go_wp2_with fail
  refine (wnumber_any w.heap.size [] l.length _ (Wr.new w _ rfl) (by omega) (by simp)).mono ?_
  rintro e w1 ⟨rfl, hw1, hb1⟩
  have hbl1 : Below w.heap.size w w1 := ((Below.refl _ _).alloc (Nat.le_refl _) _).trans hb1
  rw [List.nil_append] at hw1
  clear hb1
  go_wp2
  rcases H.out with ⟨rfl, _⟩ | ⟨b, off, rfl, hc⟩
  · clear H
    refine wp_loop_rounds 1 ?_
    rw [rounds_succ]
    go_wp2_with fail
    refine (written_any w.heap.size _ _ hw1).mono ?_
    rintro e w2 ⟨rfl, rfl⟩
    go_wp2
    go_ret
    exact ⟨ret_str (by simp [enc]), hbl1⟩
  · clear H
    have HC : Hid (∀ (i : Nat) (x : List UInt8), l[i]? = some x → w.cell? ⟨b, off + i, none⟩ = some (.string (str x))) := hc
    clear hc
    go_loopw [4, 13] (fun o i wr => ∃ (k : Nat) (out ah : List UInt8), k ≤ l.length ∧ i = .int .i64 k ∧ o = .string (str ah) ∧ ah.length ≤ 200 ∧ Hid (Wr wr w.heap.size out) ∧ Below w.heap.size w wr ∧ out.length ≤ 9 + 218 * k ∧ Hid (out ++ enc ah (l.drop k) = vb l.length ++ enc [] l)) (fun _ i _ => l.length - (intOf i).toNat)
    case atStart => exact ⟨0, vb l.length, [], by omega, rfl, rfl, by simp, hw1, hbl1, by omega, rfl⟩
    case round =>
      obtain ⟨k, out, ah, hk, rfl, rfl, hah, HW, hbl, hol, HU⟩ := hrel
      clear hw1 hbl1
      by_cases hlt : k < l.length
      · have cw := HC.out k l[k] (get_at hlt)
        have hbw : b < w.heap.size := World.block_lt_of_cell? w ⟨b, off + k, none⟩ cw
        have c1 := (hbl.cell (p := ⟨b, off + k, none⟩) hbw).trans cw
        have hx200 : l[k].length ≤ 200 := HG.out _ (List.getElem_mem hlt)
        obtain ⟨x, HX⟩ : ∃ x, Hid (x = l[k]) := ⟨l[k], rfl⟩
        rw [← HX.out] at c1 hx200
        obtain ⟨sx, HSX⟩ : ∃ sx, Hid (sx = str x) := ⟨str x, rfl⟩
        have hsz : sx.size ≤ 200 := by rw [HSX.out, str_size]; exact hx200
        have HSZ : Hid (sx.size = x.length) := by show _ = _; rw [HSX.out, str_size]
        rw [← HSX.out] at c1
        obtain ⟨sp, HSP⟩ : ∃ sp, Hid (sp = str ah) := ⟨str ah, rfl⟩
        have hsp : sp.size ≤ 200 := by rw [HSP.out, str_size]; exact hah
        rw [← HSP.out]
        clear cw
        go_wp2_with fail
        refine (common_at sp sx _ (by omega) (by omega)).mono ?_
        rintro e w3 ⟨n, rfl, hn1, HN, HD⟩
        obtain ⟨nd, rfl⟩ := HD.out
        clear HD
        go_wp2_with fail
        refine (wnumber_any w.heap.size out n _ (HW.out.drewN nd) (by omega) (by omega)).mono ?_
        rintro e w4 ⟨rfl, hw4, hb4⟩
        have hbl4 : Below w.heap.size w w4 := (below_drewN hbl _).trans hb4
        have hvn := vb_length9 n (by omega)
        clear hb4 hbl c1
        have HCUT : Hid (sx.extract n sx.size = str (x.drop n)) := by show _ = _; rw [HSX.out]; exact str_cut x n
        have hcs : (sx.extract n sx.size).size ≤ 200 := by rw [HCUT.out, str_size, List.length_drop]; omega
        go_wp2_with fail
        refine (wcounted_any w.heap.size (out ++ vb n) (sx.extract n sx.size) _ hw4 (by rw [List.length_append]; omega)).mono ?_
        rintro e w5 ⟨rfl, hw5, hb5⟩
        have hbl5 : Below w.heap.size w w5 := hbl4.trans hb5
        have hpart : out ++ vb n ++ (vb (sx.extract n sx.size).size ++ (sx.extract n sx.size).data.toList) = out ++ part ah x := by
          rw [HCUT.out, data_str, str_size, List.length_drop, part, HN.out, HSP.out, HSX.out, data_str, data_str]; simp
        rw [hpart] at hw5
        have HW5 : Hid (Wr w5 w.heap.size (out ++ part ah x)) := hw5
        have hpl := part_length ah x hx200
        have hpl2 : (out ++ part ah x).length ≤ 9 + 218 * (k + 1) := by rw [List.length_append]; omega
        have HU2 : Hid (out ++ part ah x ++ enc x (l.drop (k + 1)) = vb l.length ++ enc [] l) := by
          show _ = _
          rw [← HU.out, drop_row l k hlt, enc_cons, HX.out, List.append_assoc]
        clear hpart hb5 hbl4 hw4 hw5
        go_wp2
        go_roundw
        case rel => exact ⟨k + 1, out ++ part ah x, x, by omega, by go_num, by rw [HSX.out], hx200, HW5, hbl5, hpl2, HU2⟩
        case measure => simp [intOf]; omega
      · have HE : Hid (out = vb l.length ++ enc [] l) := by
          show _ = _
          rw [← HU.out, List.drop_of_length_le (by omega)]; simp [enc]
        go_wp2_with fail
        refine (written_any w.heap.size out _ HW.out).mono ?_
        rintro e w2 ⟨rfl, rfl⟩
        go_wp2
        go_ret
        exact ⟨ret_str (by rw [HE.out]), hbl⟩
end Go.Proofs.YtnnldpccagajbaaGreatDoor
