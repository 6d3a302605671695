import Derived.Test.YtoelacloghkooaaGreatDoorRows
import Derived.Laws.BitsAllLaws
import Derived.Laws.Bits128
import Derived.WalkKit
import Derived.ProofKit
import Derived.OpenShut
import Derived.WalkLawsBesides
import Derived.WalkSpells
import Derived.Deep.QuietTactic
import Derived.BigQuiet
/-
  What the walks of this seat share: texts as lists of bytes, bytes as cells, endings.
-/
namespace Go.Proofs.YtoelacloghkooaaGreatDoor
open Go.ChangeShapes Go.WideShapes Go.ChangeAt Go.RowKit
set_option linter.unusedVariables false

theorem ret_int {k : IntKind} {a b : Int} (h : a = b) : Ending.returned (.int k a) = .returned (.int k b) := by rw [h]
theorem ret_str {a b : ByteArray} (h : a = b) : Ending.returned (.string a) = .returned (.string b) := by rw [h]
theorem ret_bool {a b : Bool} (h : a = b) : Ending.returned (.bool a) = .returned (.bool b) := by rw [h]

/-- a list of bytes as a text -/
def str (l : List UInt8) : ByteArray := ⟨l.toArray⟩
theorem str_size (l : List UInt8) : (str l).size = l.length := by simp [str, ByteArray.size]
theorem str_app (a b : List UInt8) : str a ++ str b = str (a ++ b) := by
  apply ByteArray.ext; rw [ByteArray.data_append]; simp [str]
theorem str_data (d : ByteArray) : str d.data.toList = d := by apply ByteArray.ext; simp [str]
theorem data_str (l : List UInt8) : (str l).data.toList = l := by simp [str]
theorem str_inj {a b : List UInt8} : str a = str b ↔ a = b := by
  constructor
  · intro h; rw [← data_str a, ← data_str b, h]
  · intro h; rw [h]
theorem str_eq_iff {a b : ByteArray} : a = b ↔ a.data.toList = b.data.toList := by
  constructor
  · intro h; rw [h]
  · intro h; rw [← str_data a, ← str_data b, h]
theorem toList_of (s : ByteArray) : s.toList = s.data.toList := ByteArray.toList_eq s
theorem toList_str (l : List UInt8) : (str l).toList = l := by rw [toList_of, data_str]
theorem byte_le (c : UInt8) : (c.toNat : Int) ≤ 255 := by have := c.toNat_lt; omega
theorem ofNat_toNat (n : Nat) (h : n < 256) : ((UInt8.ofNat n).toNat : Int) = (n : Int) := by
  have : (UInt8.ofNat n).toNat = n := by simp; omega
  rw [this]

/-- bytes as cells -/
def bs (l : List UInt8) : List Value := l.map fun c => Value.int .u8 (c.toNat : Int)
theorem bs_length (l : List UInt8) : (bs l).length = l.length := by simp [bs]
theorem bs_snoc (l : List UInt8) (c : UInt8) : bs l ++ [Value.int .u8 (c.toNat : Int)] = bs (l ++ [c]) := by simp [bs]
theorem bs_app (a b : List UInt8) : bs a ++ bs b = bs (a ++ b) := by simp [bs]

theorem info5 : (Tryz.prog.info? 5).map (fun i => (i.zero, i.size, i.bytes)) = some (some (.int .u8 0), 1, 1) := by kernel_rfl

/-- 'string(b)' of a row of one's own -/
theorem own_string {W : World} {base : Nat} {v : Value} {l : List UInt8} {n : Nat} (h : W.ownsRow base 5 1 v n (bs l)) : Sem.run Tryz.prog (convert 49 9 v) W = .ok (.string (str l)) W := by
  obtain ⟨h1, h2⟩ := h
  rw [bs_length, Nat.mul_one] at h1
  subst h1
  rcases h2 with ⟨rfl, h0⟩ | ⟨g, cap, cur, rfl, hb, hg, hn, hc, hs, ht⟩
  · have hl : l = [] := List.eq_nil_of_length_eq_zero h0
    subst hl
    exact run_convert_bytes_nil W 49 5 Tryz.underlying49 Tryz.underlying5 0 0 9 Tryz.underlying9
  · refine run_convert_bytes_back W 49 9 5 ⟨g, 0, none⟩ cap l Tryz.underlying49 Tryz.underlying5 Tryz.underlying9 (fun j hj => ?_)
    have hown : W.ownsRow base 5 1 (.slice (some ⟨g, 0, none⟩) l.length cap) l.length (bs l) := ⟨by rw [bs_length, Nat.mul_one], Or.inr ⟨g, cap, cur, rfl, hb, hg, hn, hc, hs, ht⟩⟩
    exact hown.cells rfl j _ (by simp [bs, List.getElem?_eq_getElem hj])

/-- 'string([]byte{..})' right behind the literal -/
theorem lit_string (W : World) (xs : List Int) : Sem.run Tryz.prog (convert 49 9 (.slice (some ⟨W.heap.size, 0, none⟩) xs.length xs.length)) (W.alloc (.cells (xs.map (Value.int .u8)).toArray 5)) = .ok (.string (str (xs.map fun n => UInt8.ofNat n.toNat))) (W.alloc (.cells (xs.map (Value.int .u8)).toArray 5)) := by
  have h := run_convert_bytes_arg (P := Tryz.prog) (W.alloc (.cells (xs.map (Value.int .u8)).toArray 5)) 49 5 Tryz.underlying49 Tryz.underlying5 W.heap.size 0 xs.length xs.length xs rfl (fun i hi => by
    rw [World.cell?_alloc_at _ _ _ _ rfl]
    simp [List.getD, List.getElem?_eq_getElem hi]) 9 Tryz.underlying9
  exact h

/-- behind an append to a row of one's own -/
theorem grown_own {w wr w1 : World} {o : Obj} {e : TypeId} {v : Value} {n : Nat} {xs : List Value} {size : Nat} (hb : Below w.heap.size w wr) (hown : wr.ownsRow w.heap.size e size v n xs) (hg : (wr.alloc o).grownBy w1 v.ownBlock) : Below w.heap.size w w1 :=
  (hb.alloc hb.size o).grown hg (by have := hb.size; simp; omega) (fun k hk => (hown.lt k hk).1)

/-- a row of bytes at the head of a block, which may be written -/
def Row8 (w : World) (g : Nat) (l : List UInt8) : Prop := ∀ (i : Nat) (c : UInt8), l[i]? = some c → w.cell? ⟨g, i, none⟩ = some (.int .u8 (c.toNat : Int)) ∧ w.frozen? ⟨g, i, none⟩ = false
/-- '[]byte(s)' -/
theorem bytes_of (w : World) (s : ByteArray) : ∃ (cap : Nat) (w1 : World), Sem.run Tryz.prog (convert 9 49 (.string s)) w = .ok (.slice (some ⟨w.heap.size, 0, none⟩) s.size cap) w1 ∧ Row8 w1 w.heap.size s.data.toList ∧ Below w.heap.size w w1 ∧ s.size ≤ cap := by
  refine ⟨_, _, run_bytes_of_string w 9 49 5 s Tryz.underlying9 Tryz.underlying49 Tryz.underlying5, ?_, ?_, grownCap_ge _ _ _ _⟩
  · intro i c hc
    have hi : i < s.data.toList.length := by
      rcases Nat.lt_or_ge i s.data.toList.length with h | h
      · exact h
      · rw [List.getElem?_eq_none h] at hc; cases hc
    have hi' : i < s.data.size := by simpa using hi
    have hz : ∀ cap, i < (bytesRow s cap).size := fun cap => by unfold bytesRow; rw [Array.size_append, Array.size_map]; omega
    constructor
    · rw [show w.heap.size = w.drew.heap.size from rfl, World.cell?_alloc_mark]
      unfold bytesRow
      rw [Array.getElem?_append_left (by simpa using hi')]
      have : s.data[i]? = some c := by rw [← Array.getElem?_toList]; exact hc
      simp [this]
    · have hb : (w.drew.alloc (.cells (bytesRow s (grownCap w s.size 0 5)) 5 ((bytesRow s (grownCap w s.size 0 5)).size, (bytesRow s (grownCap w s.size 0 5)).size + 1))).heap[w.heap.size]? = some (.cells (bytesRow s (grownCap w s.size 0 5)) 5 ((bytesRow s (grownCap w s.size 0 5)).size, (bytesRow s (grownCap w s.size 0 5)).size + 1)) := by
        show (w.heap.push _)[w.heap.size]? = _
        simp
      unfold World.frozen?
      simp only [hb]
      have := hz (grownCap w s.size 0 5)
      simp; omega
  · exact (Below.refl _ _).drew.alloc (Nat.le_refl _) _
/-- 'string(b)' of such a row -/
theorem row_string {w : World} {g : Nat} {l : List UInt8} (h : Row8 w g l) (cap : Nat) : Sem.run Tryz.prog (convert 49 9 (.slice (some ⟨g, 0, none⟩) l.length cap)) w = .ok (.string (str l)) w := by
  refine run_convert_bytes_back w 49 9 5 ⟨g, 0, none⟩ cap l Tryz.underlying49 Tryz.underlying5 Tryz.underlying9 (fun j hj => ?_)
  have := (h j l[j] (by simp [hj])).1
  rw [show (⟨g, 0, none⟩ : Addr).add j = ⟨g, j, none⟩ from by unfold Addr.add; split <;> simp_all]
  exact this
end Go.Proofs.YtoelacloghkooaaGreatDoor

/-
  Which texts are names: in plain lists, and the document's IsName, walked.
-/
namespace Go.Proofs.YtoelacloghkooaaGreatDoor
open Go.ChangeShapes Go.WideShapes Go.ChangeAt Go.RowKit
set_option linter.unusedVariables false
def smallB (c : UInt8) : Bool := decide (97 ≤ c.toNat) && decide (c.toNat ≤ 122)
def wordB (c : UInt8) : Bool := smallB c || (decide (65 ≤ c.toNat) && decide (c.toNat ≤ 90)) || (decide (48 ≤ c.toNat) && decide (c.toNat ≤ 57)) || decide (c.toNat = 95)
def isName (s : List UInt8) : Bool := match s with
  | [] => false
  | c :: t => decide (s.length ≤ 30) && smallB c && !(s == [110, 111, 116]) && t.all wordB
theorem bool_eq {a b : Bool} (h : a = true ↔ b = true) : a = b := by cases a <;> cases b <;> simp_all
set_option maxRecDepth 100000 in
set_option maxHeartbeats 1000000 in
theorem small_any (c : UInt8) (w : World) :
    Calls Tryz.prog 69 #[.int .u8 (c.toNat : Int)] w fun e w' => e = .returned (.bool (smallB c)) ∧ w = w' := by
  have hc := byte_le c
  by_cases h1 : 97 ≤ c.toNat
  · by_cases h2 : c.toNat ≤ 122
    · have HE : Hid (smallB c = true) := by show _ = _; simp [smallB, h1, h2]
      go_enter Tryz.func69, Tryz.ntmps69
      go_wp2
      go_ret
      exact ⟨ret_bool (by rw [HE.out]; simp; omega), rfl⟩
    · have HE : Hid (smallB c = false) := by show _ = _; simp [smallB, h2]
      go_enter Tryz.func69, Tryz.ntmps69
      go_wp2
      go_ret
      exact ⟨ret_bool (by rw [HE.out]; simp; omega), rfl⟩
  · have HE : Hid (smallB c = false) := by show _ = _; simp [smallB, h1]
    go_enter Tryz.func69, Tryz.ntmps69
    go_wp2
    go_ret
    exact ⟨ret_bool (by rw [HE.out]), rfl⟩
set_option maxRecDepth 100000 in
set_option maxHeartbeats 1000000 in
theorem word_any (c : UInt8) (w : World) :
    Calls Tryz.prog 46 #[.int .u8 (c.toNat : Int)] w fun e w' => e = .returned (.bool (wordB c)) ∧ w = w' := by
  have hc := byte_le c
  cases hs : smallB c with
  | true =>
    have HE : Hid (wordB c = true) := by show _ = _; simp [wordB, hs]
    go_enter Tryz.func46, Tryz.ntmps46
    go_wp2_with fail
    refine (small_any c _).mono ?_
    rintro e w1 ⟨rfl, rfl⟩
    rw [hs]
    go_wp2
    go_ret
    exact ⟨ret_bool (by rw [HE.out]), rfl⟩
  | false =>
    have hw : wordB c = ((decide (65 ≤ c.toNat) && decide (c.toNat ≤ 90)) || (decide (48 ≤ c.toNat) && decide (c.toNat ≤ 57)) || decide (c.toNat = 95)) := by simp [wordB, hs]
    have HW : Hid (wordB c = ((decide (65 ≤ c.toNat) && decide (c.toNat ≤ 90)) || (decide (48 ≤ c.toNat) && decide (c.toNat ≤ 57)) || decide (c.toNat = 95))) := hw
    clear hw
    have HS : Hid (smallB c = false) := hs
    clear hs
    by_cases h1 : 65 ≤ c.toNat
    all_goals by_cases h2 : c.toNat ≤ 90
    all_goals by_cases h3 : 48 ≤ c.toNat
    all_goals by_cases h4 : c.toNat ≤ 57
    all_goals try (exfalso; omega)
    all_goals
      go_enter Tryz.func46, Tryz.ntmps46
      go_wp2_with fail
      refine (small_any c _).mono ?_
      rintro e w1 ⟨rfl, rfl⟩
      rw [HS.out]
      go_wp2
      all_goals go_ret
      all_goals refine ⟨ret_bool ?_, rfl⟩
      all_goals rw [HW.out]
      all_goals apply bool_eq
      all_goals simp
      all_goals omega
theorem name_step (l : List UInt8) (k : Nat) (c : UInt8) (hk : 1 ≤ k) (hc : l[k]? = some c) : (l.drop 1).take k = (l.drop 1).take (k - 1) ++ [c] := by
  obtain ⟨m, rfl⟩ : ∃ m, k = m + 1 := ⟨k - 1, by omega⟩
  have hl : m < (l.drop 1).length := by
    have : m + 1 < l.length := by
      rcases Nat.lt_or_ge (m + 1) l.length with h | h
      · exact h
      · rw [List.getElem?_eq_none h] at hc; cases hc
    simp; omega
  have he : (l.drop 1)[m]? = some c := by rw [List.getElem?_drop, Nat.add_comm]; exact hc
  rw [Nat.add_sub_cancel, List.take_succ_eq_append_getElem hl]
  rw [List.getElem?_eq_getElem hl] at he
  cases he; rfl
theorem name_of (s : ByteArray) (h0 : 0 < s.size) : isName s.data.toList = (decide (s.size ≤ 30) && smallB s[0] && !(s.data.toList == [110, 111, 116]) && (s.data.toList.drop 1).all wordB) := by
  have hl : 0 < s.data.toList.length := by simpa using h0
  have e : s.data.toList = s[0] :: s.data.toList.drop 1 := by
    conv => lhs; rw [← List.drop_zero (l := s.data.toList), List.drop_eq_getElem_cons hl]
    rfl
  have e2 : isName s.data.toList = isName (s[0] :: s.data.toList.drop 1) := by rw [← e]
  rw [e2, isName, ← e]
  simp
theorem name_get (s : ByteArray) (k : Nat) (h : k < s.size) : s.data.toList[k]? = some s[k] := by
  rw [List.getElem?_eq_getElem (by simpa using h)]; rfl
set_option maxRecDepth 100000 in
set_option maxHeartbeats 1000000 in
theorem risname_any (s : ByteArray) (w : World) (hs : s.size ≤ 140737488355328) :
    Calls Tryz.prog 37 #[.string s] w fun e w' => e = .returned (.bool (isName s.data.toList)) ∧ w = w' := by
  by_cases h0 : s.size = 0
  · have HE : Hid (isName s.data.toList = false) := by
      have : s.data.toList = [] := List.eq_nil_of_length_eq_zero (by simpa using h0)
      show _ = _; rw [this]; rfl
    have h0' : s.size < 1 := by omega
    clear h0
    go_enter Tryz.func37, Tryz.ntmps37
    go_wp2
    go_ret
    exact ⟨ret_bool HE.out.symm, rfl⟩
  · have hp : 0 < s.size := by omega
    have HN := name_of s hp
    have HNH : Hid (isName s.data.toList = (decide (s.size ≤ 30) && smallB s[0] && !(s.data.toList == [110, 111, 116]) && (s.data.toList.drop 1).all wordB)) := HN
    clear HN h0
    by_cases h30 : s.size ≤ 30
    · cases hsm : smallB s[0] with
      | false =>
        have HE : Hid (isName s.data.toList = false) := by show _ = _; rw [HNH.out, hsm]; simp
        have HSM : Hid (smallB s[0] = false) := hsm
        clear hsm
        go_enter Tryz.func37, Tryz.ntmps37
        go_wp2_with fail
        refine (small_any s[0] _).mono ?_
        rintro e w1 ⟨rfl, rfl⟩
        rw [HSM.out]
        go_wp2
        go_ret
        exact ⟨ret_bool HE.out.symm, rfl⟩
      | true =>
        have HSM : Hid (smallB s[0] = true) := hsm
        by_cases hnot : s.data.toList = [110, 111, 116]
        · have HE : Hid (isName s.data.toList = false) := by show _ = _; rw [HNH.out, hnot]; simp
          have hn2 : (s.toList == [110, 111, 116]) = true := by rw [toList_of, hnot]; rfl
          clear hsm hnot
          go_enter Tryz.func37, Tryz.ntmps37
          go_wp2_with fail
          refine (small_any s[0] _).mono ?_
          rintro e w1 ⟨rfl, rfl⟩
          rw [HSM.out]
          go_wp2
          go_ret
          exact ⟨ret_bool HE.out.symm, rfl⟩
        · have hn2 : (s.toList == [110, 111, 116]) = false := by rw [toList_of]; simp [hnot]
          have HNA : Hid (isName s.data.toList = (s.data.toList.drop 1).all wordB) := by show _ = _; rw [HNH.out, hsm]; simp [h30, hnot]
          clear hsm hnot
          go_enter Tryz.func37, Tryz.ntmps37
          go_wp2_with fail
          refine (small_any s[0] _).mono ?_
          rintro e w1 ⟨rfl, rfl⟩
          rw [HSM.out]
          go_wp2
          go_loop [3] (fun i => ∃ k : Nat, 1 ≤ k ∧ k ≤ s.size ∧ i = .int .i64 k ∧ Hid (((s.data.toList.drop 1).take (k - 1)).all wordB = true)) (fun i => s.size - (intOf i).toNat)
          case atStart => exact ⟨1, by omega, by omega, rfl, by simp [Hid]⟩
          case round =>
            obtain ⟨k, hk1, hk2, rfl, HA⟩ := hrel
            by_cases hlt : k < s.size
            · have hst := name_step s.data.toList k s[k] hk1 (name_get s k hlt)
              cases hw : wordB s[k] with
              | true =>
                have HA2 : Hid (((s.data.toList.drop 1).take (k + 1 - 1)).all wordB = true) := by
                  show _ = _
                  rw [Nat.add_sub_cancel, hst, List.all_append, HA.out]; simp [hw]
                have HW : Hid (wordB s[k] = true) := hw
                clear hw hst
                go_wp2_with fail
                refine (word_any s[k] _).mono ?_
                rintro e w2 ⟨rfl, rfl⟩
                rw [HW.out]
                go_wp2
                go_round
                case rel => exact ⟨k + 1, by omega, by omega, by go_num, HA2⟩
                case measure => simp [intOf]; omega
              | false =>
                have HE : Hid (isName s.data.toList = false) := by
                  show _ = _
                  rw [HNA.out, ← List.take_append_drop k (s.data.toList.drop 1), hst]
                  simp [hw]
                have HW : Hid (wordB s[k] = false) := hw
                clear hw hst
                go_wp2_with fail
                refine (word_any s[k] _).mono ?_
                rintro e w2 ⟨rfl, rfl⟩
                rw [HW.out]
                go_wp2
                go_ret
                exact ⟨ret_bool HE.out.symm, rfl⟩
            · have HE : Hid (isName s.data.toList = true) := by
                show _ = _
                have := HA.out
                rw [List.take_of_length_le (by simp; omega)] at this
                rw [HNA.out, this]
              go_wp2
              go_ret
              exact ⟨ret_bool HE.out.symm, rfl⟩
    · have HE : Hid (isName s.data.toList = false) := by show _ = _; rw [HNH.out]; simp [h30]
      have h30' : 30 < s.size := by omega
      clear h30
      go_enter Tryz.func37, Tryz.ntmps37
      go_wp2
      go_ret
      exact ⟨ret_bool HE.out.symm, rfl⟩
end Go.Proofs.YtoelacloghkooaaGreatDoor

/-
  The program's package letters, walked.
-/
namespace Go.Proofs.YtoelacloghkooaaGreatDoor
open Go.ChangeShapes Go.WideShapes Go.ChangeAt Go.RowKit
set_option linter.unusedVariables false
def capitalB (c : UInt8) : Bool := decide (65 ≤ c.toNat) && decide (c.toNat ≤ 90)
def digitB (c : UInt8) : Bool := decide (48 ≤ c.toNat) && decide (c.toNat ≤ 57)
theorem wordB_is (c : UInt8) : wordB c = (smallB c || capitalB c || digitB c || decide (c.toNat = 95)) := rfl
set_option maxRecDepth 100000 in
set_option maxHeartbeats 1000000 in
theorem psmall_any (c : UInt8) (w : World) :
    Calls Tryz.prog 60 #[.int .u8 (c.toNat : Int)] w fun e w' => e = .returned (.bool (smallB c)) ∧ w = w' := by
  have hc := byte_le c
  by_cases h1 : 97 ≤ c.toNat
  · by_cases h2 : c.toNat ≤ 122
    · have HE : Hid (smallB c = true) := by show _ = _; simp [smallB, h1, h2]
      go_enter Tryz.func60, Tryz.ntmps60
      go_wp2
      go_ret
      exact ⟨ret_bool (by rw [HE.out]; simp; omega), rfl⟩
    · have HE : Hid (smallB c = false) := by show _ = _; simp [smallB, h2]
      go_enter Tryz.func60, Tryz.ntmps60
      go_wp2
      go_ret
      exact ⟨ret_bool (by rw [HE.out]; simp; omega), rfl⟩
  · have HE : Hid (smallB c = false) := by show _ = _; simp [smallB, h1]
    go_enter Tryz.func60, Tryz.ntmps60
    go_wp2
    go_ret
    exact ⟨ret_bool (by rw [HE.out]), rfl⟩
set_option maxRecDepth 100000 in
set_option maxHeartbeats 1000000 in
theorem pcapital_any (c : UInt8) (w : World) :
    Calls Tryz.prog 86 #[.int .u8 (c.toNat : Int)] w fun e w' => e = .returned (.bool (capitalB c)) ∧ w = w' := by
  have hc := byte_le c
  by_cases h1 : 65 ≤ c.toNat
  · by_cases h2 : c.toNat ≤ 90
    · have HE : Hid (capitalB c = true) := by show _ = _; simp [capitalB, h1, h2]
      go_enter Tryz.func86, Tryz.ntmps86
      go_wp2
      go_ret
      exact ⟨ret_bool (by rw [HE.out]; simp; omega), rfl⟩
    · have HE : Hid (capitalB c = false) := by show _ = _; simp [capitalB, h2]
      go_enter Tryz.func86, Tryz.ntmps86
      go_wp2
      go_ret
      exact ⟨ret_bool (by rw [HE.out]; simp; omega), rfl⟩
  · have HE : Hid (capitalB c = false) := by show _ = _; simp [capitalB, h1]
    go_enter Tryz.func86, Tryz.ntmps86
    go_wp2
    go_ret
    exact ⟨ret_bool (by rw [HE.out]), rfl⟩
set_option maxRecDepth 100000 in
set_option maxHeartbeats 1000000 in
theorem pdigit_any (c : UInt8) (w : World) :
    Calls Tryz.prog 63 #[.int .u8 (c.toNat : Int)] w fun e w' => e = .returned (.bool (digitB c)) ∧ w = w' := by
  have hc := byte_le c
  by_cases h1 : 48 ≤ c.toNat
  · by_cases h2 : c.toNat ≤ 57
    · have HE : Hid (digitB c = true) := by show _ = _; simp [digitB, h1, h2]
      go_enter Tryz.func63, Tryz.ntmps63
      go_wp2
      go_ret
      exact ⟨ret_bool (by rw [HE.out]; simp; omega), rfl⟩
    · have HE : Hid (digitB c = false) := by show _ = _; simp [digitB, h2]
      go_enter Tryz.func63, Tryz.ntmps63
      go_wp2
      go_ret
      exact ⟨ret_bool (by rw [HE.out]; simp; omega), rfl⟩
  · have HE : Hid (digitB c = false) := by show _ = _; simp [digitB, h1]
    go_enter Tryz.func63, Tryz.ntmps63
    go_wp2
    go_ret
    exact ⟨ret_bool (by rw [HE.out]), rfl⟩
set_option maxRecDepth 100000 in
set_option maxHeartbeats 1000000 in
theorem pword_any (c : UInt8) (w : World) :
    Calls Tryz.prog 62 #[.int .u8 (c.toNat : Int)] w fun e w' => e = .returned (.bool (wordB c)) ∧ w = w' := by
  have hc := byte_le c
  cases hs : smallB c with
  | true =>
    have HE : Hid (wordB c = true) := by show _ = _; simp [wordB_is, hs]
    go_enter Tryz.func62, Tryz.ntmps62
    go_wp2_with fail
    refine (psmall_any c _).mono ?_
    rintro e w1 ⟨rfl, rfl⟩
    rw [hs]
    go_wp2
    go_ret
    exact ⟨ret_bool (by rw [HE.out]), rfl⟩
  | false =>
    cases hk : capitalB c with
    | true =>
      have HE : Hid (wordB c = true) := by show _ = _; simp [wordB_is, hk]
      go_enter Tryz.func62, Tryz.ntmps62
      go_wp2_with fail
      refine (psmall_any c _).mono ?_
      rintro e w1 ⟨rfl, rfl⟩
      rw [hs]
      go_wp2_with fail
      refine (pcapital_any c _).mono ?_
      rintro e w2 ⟨rfl, rfl⟩
      rw [hk]
      go_wp2
      go_ret
      exact ⟨ret_bool (by rw [HE.out]), rfl⟩
    | false =>
      cases hd : digitB c with
      | true =>
        have HE : Hid (wordB c = true) := by show _ = _; simp [wordB_is, hd]
        go_enter Tryz.func62, Tryz.ntmps62
        go_wp2_with fail
        refine (psmall_any c _).mono ?_
        rintro e w1 ⟨rfl, rfl⟩
        rw [hs]
        go_wp2_with fail
        refine (pcapital_any c _).mono ?_
        rintro e w2 ⟨rfl, rfl⟩
        rw [hk]
        go_wp2_with fail
        refine (pdigit_any c _).mono ?_
        rintro e w3 ⟨rfl, rfl⟩
        rw [hd]
        go_wp2
        go_ret
        exact ⟨ret_bool (by rw [HE.out]), rfl⟩
      | false =>
        have HE : Hid (wordB c = decide (c.toNat = 95)) := by show _ = _; simp [wordB_is, hs, hk, hd]
        go_enter Tryz.func62, Tryz.ntmps62
        go_wp2_with fail
        refine (psmall_any c _).mono ?_
        rintro e w1 ⟨rfl, rfl⟩
        rw [hs]
        go_wp2_with fail
        refine (pcapital_any c _).mono ?_
        rintro e w2 ⟨rfl, rfl⟩
        rw [hk]
        go_wp2_with fail
        refine (pdigit_any c _).mono ?_
        rintro e w3 ⟨rfl, rfl⟩
        rw [hd]
        go_wp2
        go_ret
        refine ⟨ret_bool ?_, rfl⟩
        rw [HE.out]
        apply bool_eq
        simp
        try omega
/-- how many bytes of one kind a text begins with -/
def runLen (p : UInt8 → Bool) (l : List UInt8) : Nat := (l.takeWhile p).length
theorem runLen_le (p : UInt8 → Bool) (l : List UInt8) : runLen p l ≤ l.length := by
  unfold runLen
  induction l with
  | nil => simp
  | cons c t ih => rw [List.takeWhile_cons]; split <;> simp; omega
theorem runLen_is (p : UInt8 → Bool) (l : List UInt8) (k : Nat) (h1 : ∀ i c, i < k → l[i]? = some c → p c = true) (h2 : ∀ c, l[k]? = some c → p c = false) (hk : k ≤ l.length) : runLen p l = k := by
  unfold runLen
  induction l generalizing k with
  | nil => simp at hk ⊢; omega
  | cons c t ih =>
    rw [List.takeWhile_cons]
    cases k with
    | zero => rw [h2 c rfl]; rfl
    | succ k =>
      rw [h1 0 c (by omega) rfl, if_pos rfl, List.length_cons, ih k (fun i d hi hd => h1 (i + 1) d (by omega) (by simpa using hd)) (fun d hd => h2 d (by simpa using hd)) (by simp at hk; omega)]
theorem runLen_all (p : UInt8 → Bool) (l : List UInt8) : decide (runLen p l = l.length) = l.all p := by
  unfold runLen
  induction l with
  | nil => rfl
  | cons c t ih =>
    rw [List.takeWhile_cons, List.all_cons, ← ih]
    cases p c <;> simp
set_option maxRecDepth 100000 in
set_option maxHeartbeats 1000000 in
theorem run_any (F : Nat) (p : UInt8 → Bool) (EG : ∀ args w, (callFunc F args).run Tryz.prog w = .ok (.enter F args) w)
    (HP : Hid (∀ (c : UInt8) (w : World), Calls Tryz.prog F #[.int .u8 (c.toNat : Int)] w fun e w' => e = .returned (.bool (p c)) ∧ w = w')) (s : ByteArray) (w : World) (hs : s.size ≤ 140737488355328) :
    Calls Tryz.prog 85 #[.string s, .func (.func F) #[] #[]] w fun e w' => e = .returned (.int .i64 (runLen p s.data.toList : Nat)) ∧ w = w' := by
  go_enter Tryz.func85, Tryz.ntmps85
  go_wp2
  go_loopw [5] (fun i wr => ∃ k : Nat, k ≤ s.size ∧ i = .int .i64 k ∧ wr = w ∧ Hid (∀ i c, i < k → s.data.toList[i]? = some c → p c = true)) (fun i _ => s.size - (intOf i).toNat)
  case atStart => exact ⟨0, by omega, rfl, rfl, fun i c hi => by omega⟩
  case round =>
    obtain ⟨k, hk, rfl, rfl, HA⟩ := hrel
    by_cases hlt : k < s.size
    · have hc := byte_le s[k]
      cases hw : p s[k] with
      | true =>
        have HW : Hid (∀ i c, i < k + 1 → s.data.toList[i]? = some c → p c = true) := by
          intro i c hi hcc
          by_cases e : i = k
          · subst e
            rw [name_get s i hlt] at hcc
            cases hcc; exact hw
          · exact HA.out i c (by omega) hcc
        have HWK : Hid (p s[k] = true) := hw
        clear hw
        go_wp2_with fail
        refine (HP.out s[k] _).mono ?_
        rintro e w1 ⟨rfl, rfl⟩
        rw [HWK.out]
        go_wp2
        go_roundw
        case rel => exact ⟨k + 1, by omega, by go_num, by first | trivial | rfl, HW⟩
        case measure => simp [intOf]; omega
      | false =>
        have HW : Hid (runLen p s.data.toList = k) := runLen_is p _ k HA.out (fun c hcc => by rw [name_get s k hlt] at hcc; cases hcc; exact hw) (by simp; omega)
        have HWK : Hid (p s[k] = false) := hw
        clear hw
        go_wp2_with fail
        refine (HP.out s[k] _).mono ?_
        rintro e w1 ⟨rfl, rfl⟩
        rw [HWK.out]
        go_wp2
        go_ret
        exact ⟨by rw [HW.out]; rfl, rfl⟩
    · have HW : Hid (runLen p s.data.toList = k) := runLen_is p _ k HA.out (fun c hcc => by rw [List.getElem?_eq_none (by simp; omega)] at hcc; cases hcc) (by simp; omega)
      go_wp2
      go_ret
      exact ⟨by rw [HW.out]; rfl, rfl⟩
set_option maxRecDepth 100000 in
set_option maxHeartbeats 1000000 in
theorem all_any (F : Nat) (p : UInt8 → Bool) (EG : ∀ args w, (callFunc F args).run Tryz.prog w = .ok (.enter F args) w)
    (HP : Hid (∀ (c : UInt8) (w : World), Calls Tryz.prog F #[.int .u8 (c.toNat : Int)] w fun e w' => e = .returned (.bool (p c)) ∧ w = w')) (s : ByteArray) (w : World) (hs : s.size ≤ 140737488355328) :
    Calls Tryz.prog 61 #[.string s, .func (.func F) #[] #[]] w fun e w' => e = .returned (.bool (s.data.toList.all p)) ∧ w = w' := by
  have HA : Hid (decide (runLen p s.data.toList = s.data.toList.length) = s.data.toList.all p) := runLen_all p _
  obtain ⟨n, HN⟩ : ∃ n, Hid (n = runLen p s.data.toList) := ⟨_, (rfl : runLen p s.data.toList = _)⟩
  have hn : n ≤ s.size := by have := runLen_le p s.data.toList; rw [HN.out]; simpa using this
  rw [← HN.out] at HA
  go_enter Tryz.func61, Tryz.ntmps61
  go_wp2_with fail
  refine (run_any F p EG HP s _ hs).mono ?_
  rintro e w1 ⟨rfl, rfl⟩
  rw [← HN.out]
  go_wp2
  go_ret
  refine ⟨ret_bool ?_, rfl⟩
  rw [← HA.out]
  apply bool_eq
  simp
  try omega
end Go.Proofs.YtoelacloghkooaaGreatDoor
