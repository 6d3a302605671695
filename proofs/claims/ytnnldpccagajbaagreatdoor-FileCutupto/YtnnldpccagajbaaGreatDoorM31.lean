import Derived.Test.YtnnldpccagajbaaGreatDoorM27
import Derived.Test.YtnnldpccagajbaaGreatDoorM18
import Derived.Test.YtnnldpccagajbaaGreatDoorM30
import Derived.Deep.AppendLies
import Derived.Deep.RegionLaw
/-
  The program's readColumn, walked.
-/
namespace Go.Proofs.YtnnldpccagajbaaGreatDoor
open Go.ChangeShapes Go.WideShapes Go.ChangeAt Go.RowKit
set_option linter.unusedVariables false
/-- rows of which no two lie in one block, nor in block b -/
def Sep (b : Nat) (us : List Value) : Prop := (∀ (i j : Nat) (x y : Value), i ≠ j → us[i]? = some x → us[j]? = some y → x.ownBlock = none ∨ x.ownBlock ≠ y.ownBlock) ∧ ∀ (i : Nat) (x : Value), us[i]? = some x → x.ownBlock ≠ some b
/-- a block that is not theirs may change -/
theorem Deep.grownBy {base b : Nat} {w w' : World} {v : Value} {us : List Value} {L : List (List (List UInt8))} (h : Deep base w v us L) (hg : w.grownBy w' (some b)) (hv : v.ownBlock ≠ some b) (hs : Sep b us) : Deep base w' v us L :=
  ⟨h.1.kept hg (Or.inr hv), h.2.1, fun i x r hx hr => (h.2.2 i x r hx hr).kept hg (Or.inr (hs.2 i x hx))⟩
/-- one row gets a text more -/
theorem Deep.more {base b g0 n cap k : Nat} {w w3 : World} {us : List Value} {L : List (List (List UInt8))} {x v2 : Value} {row : List (List UInt8)} {t : List UInt8} {o : Obj} (h : Deep base w (.slice (some ⟨g0, 0, none⟩) n cap) us L) (hs : Sep b us) (hb : b < w.heap.size) (hn : us.length = n)
    (hx : us[k]? = some x) (hr : L[k]? = some row) (hown : w3.ownsRow base 9 1 v2 (row ++ [t]).length (ts (row ++ [t]))) (hg : (w.alloc o).grownBy w3 x.ownBlock) (hat : v2.ownBlock = x.ownBlock ∨ v2.ownBlock = some (w.alloc o).heap.size) :
    Deep base (w3.setCell ⟨g0, k, none⟩ v2) (.slice (some ⟨g0, 0, none⟩) n cap) (us.set k v2) (L.set k (row ++ [t])) ∧ Sep b (us.set k v2) := by
  have hbA : Below w.heap.size w (w.alloc o) := (Below.refl _ _).alloc (Nat.le_refl _) _
  have hszA : (w.alloc o).heap.size = w.heap.size + 1 := by simp
  have hk : k < us.length := lt_of_some hx
  have hkL : k < L.length := by rw [← h.2.1]; exact hk
  have hO : w.ownsRow base 45 1 (.slice (some ⟨g0, 0, none⟩) n cap) us.length us := h.1
  have hxo := h.2.2 k x row hx hr
  have hOA := own_below hO hbA
  have hxA := own_below hxo hbA
  have hO3 : w3.ownsRow base 45 1 (.slice (some ⟨g0, 0, none⟩) n cap) us.length us := hOA.kept hg (kind_ne hOA hxA (by decide))
  rw [hn] at hO3
  have hO4 := own_set hO3 k v2
  have hg0 : ∀ (y : Value) (r : List (List UInt8)), w3.ownsRow base 9 1 y r.length (ts r) → (w3.setCell ⟨g0, k, none⟩ v2).ownsRow base 9 1 y r.length (ts r) := by
    intro y r hy
    refine hy.kept (cgrown_set w3 ⟨g0, k, none⟩ v2) ?_
    exact kind_ne hy hO3 (by decide)
  refine ⟨⟨by rw [List.length_set, hn]; exact hO4, by rw [List.length_set, List.length_set]; exact h.2.1, fun i y r hy hr2 => ?_⟩, ?_⟩
  · by_cases hik : i = k
    · subst hik
      rw [List.getElem?_set_self hk] at hy
      rw [List.getElem?_set_self hkL] at hr2
      cases hy
      cases hr2
      exact hg0 _ _ hown
    · rw [List.getElem?_set_ne (fun e => hik e.symm)] at hy hr2
      refine hg0 _ _ ((own_below (h.2.2 i y r hy hr2) hbA).kept hg ?_)
      exact hs.1 i k y x hik hy hx
  · have hfresh : ∀ (i : Nat) (y : Value), us[i]? = some y → y.ownBlock ≠ some (w.alloc o).heap.size := by
      intro i y hy e
      have hil : i < L.length := by rw [← h.2.1]; exact lt_of_some hy
      have := ((h.2.2 i y _ hy (row_at hil)).lt _ e).2
      rw [hszA] at this; omega
    refine ⟨fun i j y z hij hy hz => ?_, fun i y hy => ?_⟩
    · by_cases hik : i = k
      · subst hik
        rw [List.getElem?_set_self hk] at hy
        rw [List.getElem?_set_ne (fun e => hij e)] at hz
        cases hy
        rcases hat with e | e
        · rw [e]; exact hs.1 i j x z hij hx hz
        · rw [e]; exact Or.inr (fun e2 => hfresh j z hz e2.symm)
      · rw [List.getElem?_set_ne (fun e => hik e.symm)] at hy
        by_cases hjk : j = k
        · subst hjk
          rw [List.getElem?_set_self hk] at hz
          cases hz
          rcases hat with e | e
          · rw [e]; exact hs.1 i j y x hik hy hx
          · rw [e]; exact Or.inr (hfresh i y hy)
        · rw [List.getElem?_set_ne (fun e => hjk e.symm)] at hz
          exact hs.1 i j y z hij hy hz
    · by_cases hik : i = k
      · subst hik
        rw [List.getElem?_set_self hk] at hy
        cases hy
        rcases hat with e | e
        · rw [e]; exact hs.2 i x hx
        · rw [e, hszA]; simp; omega
      · rw [List.getElem?_set_ne (fun e => hik e.symm)] at hy
        exact hs.2 i y hy
/-- the state of reading a column: sound, or with an error -/
def ColS (s : ByteArray) (all : List (List UInt8)) (L L' : List (List (List UInt8))) (k l : Nat) (c : CS) : Prop :=
  (c.z = 0 ∧ ∃ out, out.length = k ∧ L' = out ++ L.drop k ∧ fill all 0 L s.data.toList = (fill all (l : Nat) (L.drop k) (from_ s c.a)).map fun q => (out ++ q.1, q.2))
  ∨ (c.z ≠ 0 ∧ fill all 0 L s.data.toList = none)
/-- what 'readColumn' leaves -/
def ColP (base b : Nat) (v : Value) (r : Option (List (List (List UInt8)) × List UInt8)) (e : Ending) (w' : World) : Prop := match r with
  | none => ∃ z : Int, (z != 0) = true ∧ e = .returned (.int .i64 z)
  | some (o, _) => e = .returned (.int .i64 0) ∧ ∃ us, Deep base w' v us o ∧ Sep b us
theorem ColS.out {s : ByteArray} {all : List (List UInt8)} {L L' : List (List (List UInt8))} {k l m1 : Nat} {c c2 : CS} (h : ColS s all L L' k l c) (hk : k < L.length) (hc : cnum s c = (m1, c2)) (ho : (l : Int) + unfold m1 < 0 ∨ (all.length : Int) ≤ l + unfold m1) : fill all 0 L s.data.toList = none := by
  rcases h with ⟨hz, out, -, -, hf⟩ | ⟨-, hf⟩
  · unfold cnum at hc
    rw [if_neg (by omega)] at hc
    rw [hf, List.drop_eq_getElem_cons hk]
    cases hu : uv 0 0 (from_ s c.a) with
    | none => rw [fill_none _ _ _ _ _ hu]; rfl
    | some q =>
      obtain ⟨n, kk⟩ := q
      rw [hu] at hc
      cases hc
      rw [fill_out _ _ _ _ _ m1 kk hu ho]; rfl
  · exact hf
theorem ColS.next {s : ByteArray} {all : List (List UInt8)} {L L' : List (List (List UInt8))} {k l l2 m1 : Nat} {c c2 : CS} {row : List (List UInt8)} (h : ColS s all L L' k l c) (hk : k < L.length) (hc : cnum s c = (m1, c2)) (hl2 : (l : Int) + unfold m1 = (l2 : Nat)) (ha : l2 < all.length) (hr : L'[k]? = some row) : ColS s all L (L'.set k (row ++ [all[l2]])) (k + 1) l2 c2 := by
  rcases h with ⟨hz, out, ho, hL, hf⟩ | ⟨hz, hf⟩
  · unfold cnum at hc
    rw [if_neg (by omega)] at hc
    have hd := List.drop_eq_getElem_cons hk
    cases hu : uv 0 0 (from_ s c.a) with
    | none =>
      rw [hu] at hc
      cases hc
      refine Or.inr ⟨by simp, ?_⟩
      rw [hf, hd, fill_none _ _ _ _ _ hu]; rfl
    | some q =>
      obtain ⟨n, kk⟩ := q
      rw [hu] at hc
      cases hc
      have hrow : row = L[k] := by
        rw [hL, List.getElem?_append_right (by omega), ho, Nat.sub_self, hd] at hr
        have h5 : some L[k] = some row := hr
        exact (Option.some.inj h5).symm
      refine Or.inl ⟨rfl, out ++ [row ++ [all[l2]]], by simp [ho], ?_, ?_⟩
      · rw [hL, List.set_append_right _ _ (by omega), ho, Nat.sub_self, hd, List.set_cons_zero, List.append_assoc]
        rfl
      · rw [hf, hd, fill_next _ _ _ _ _ m1 kk hu (by omega), hl2, from_drop, Int.toNat_natCast, Option.map_map, hrow]
        congr 1
        funext q
        simp [List.getD, ha]
  · refine Or.inr ⟨?_, hf⟩
    rw [cnum_bad s c hz] at hc
    cases hc
    exact hz
theorem Strs.low {w w' : World} {v : Value} {l : List (List UInt8)} {base : Nat} (h : Strs w v l) (hb : Below base w w') (hab : ∀ b off c m, v = .slice (some ⟨b, off, none⟩) m c → b < base) : Strs w' v l := by
  obtain ⟨a, cap, rfl, h⟩ := h
  refine ⟨a, cap, rfl, ?_⟩
  rcases h with h | ⟨b, off, rfl, hc⟩
  · exact Or.inl h
  · refine Or.inr ⟨b, off, rfl, fun i x hx => ?_⟩
    rw [hb.cell (p := ⟨b, off + i, none⟩) (hab b off cap _ rfl)]; exact hc i x hx
theorem colP_none {base b : Nat} {v : Value} {r : Option (List (List (List UInt8)) × List UInt8)} {w' : World} {z : Int} (h : r = none) (hz : (z != 0) = true) : ColP base b v r (.returned (.int .i64 z)) w' := by subst h; exact ⟨z, hz, rfl⟩
set_option maxRecDepth 100000 in
set_option maxHeartbeats 4000000 in
theorem preadColumn_any (base g0 n cap : Nat) (us : List Value) (L : List (List (List UInt8))) (va : Value) (all : List (List UInt8)) (s : ByteArray) (b0 : Nat) (w : World) (h : Deep base w (.slice (some ⟨g0, 0, none⟩) n cap) us L) (hn : us.length = n) (hs : Sep b0 us) (ha : Strs w va all) (hab : ∀ b off c m, va = .slice (some ⟨b, off, none⟩) m c → b < base) (hb : base ≤ w.heap.size) (hbp : 0 < base)
    (hl : L.length ≤ 2000) (hr : ∀ r ∈ L, r.length ≤ 1048576) (hal : all.length ≤ 1048576) (hz : s.size ≤ 1048576) :
    Calls Tryz.prog 42 #[.slice (some ⟨g0, 0, none⟩) n cap, .string s, va] w fun e w' => ColP base 0 (.slice (some ⟨g0, 0, none⟩) n cap) (fill all 0 L s.data.toList) e w' ∧ Below base w w' := by
  obtain ⟨j0, hj, hy0, hy1, hy2⟩ := info_parts info9
  obtain ⟨aa, acap, rfl, -⟩ := id ha
  have HA : Hid (Strs w (.slice aa all.length acap) all) := ha
  have HAB : Hid (∀ b off c m, (Value.slice aa all.length acap) = .slice (some ⟨b, off, none⟩) m c → b < base) := hab
  have HLN : Hid (us.length = n) := hn
  have HLL : Hid (L.length = n) := by show _ = _; rw [← h.2.1]; exact hn
  have hn2 : n ≤ 2000 := by have := HLL.out; omega
  have hg0 : base ≤ g0 ∧ g0 < w.heap.size := h.1.lt g0 rfl
  have HD0 : Hid (Deep base w (.slice (some ⟨g0, 0, none⟩) n cap) us L) := h
  have HS0 : Hid (∀ C, w.heap.size ≤ C → Sep C us) := fun C hC => ⟨hs.1, fun i x hx e => by
    have hil : i < L.length := by rw [← h.2.1]; exact lt_of_some hx
    have := ((h.2.2 i x _ hx (row_at hil)).lt _ e).2
    omega⟩
  have HRR : Hid (∀ r ∈ L, r.length ≤ 1048576) := hr
  have HF0 : Hid (fill all 0 L s.data.toList = (fill all ((0 : Nat) : Int) (L.drop 0) (from_ s 0)).map fun q => ([] ++ q.1, q.2)) := by
    show _ = _
    rw [from_zero]; exact fill_start all L _
  clear ha hab hn h hs hr
  go_enter Tryz.func42, Tryz.ntmps42
  go_wp2_with fail
  refine (at_in s 0 _ (by omega) (by omega)).mono ?_
  rintro e w1 ⟨rfl, hb1⟩
  have hs1 : w.heap.size ≤ w1.heap.size := hb1.size
  obtain ⟨W2, HW2⟩ : ∃ W2, Hid (W2 = w1.alloc (.cells #[.string s, .int .i64 0, .int .i64 0] 68)) := ⟨_, rfl⟩
  have hbA : Below w1.heap.size w1 W2 := by rw [HW2.out]; exact (Below.refl _ _).alloc (Nat.le_refl _) _
  have hbW : Below w.heap.size w W2 := hb1.trans (hbA.mono hs1)
  have HD2 : Hid (Deep base W2 (.slice (some ⟨g0, 0, none⟩) n cap) us L) := HD0.out.kept hbW
  have HB2 : Hid (Below base w W2) := hbW.mono hb
  have HC2 : Hid (Cur W2 w1.heap.size s ((0 : Nat) : Int) 0) := by rw [HW2.out]; exact Cur.new _ _ s _ rfl
  clear hb1 hbA hbW
  go_wp2
  rw [← HW2.out]
  clear HW2
  go_loopw [8, 14] (fun nv iv wr => ∃ (k l : Nat) (us' : List Value) (L' : List (List (List UInt8))) (c : CS), k ≤ n ∧ l ≤ all.length ∧ iv = .int .i64 k ∧ nv = .int .i64 l ∧ InP s c ∧ Hid (us'.length = n) ∧ Hid (∀ i r, k ≤ i → L'[i]? = some r → r.length ≤ 1048576) ∧ Hid (Deep base wr (.slice (some ⟨g0, 0, none⟩) n cap) us' L') ∧ Hid (Sep w1.heap.size us') ∧ Hid (Cur wr w1.heap.size s (c.a : Nat) (c.z : Nat)) ∧ Hid (ColS s all L L' k l c) ∧ Hid (Below base w wr)) (fun _ iv _ => n - (intOf iv).toNat)
  case atStart => exact ⟨0, 0, us, L, ⟨0, 0⟩, by omega, by omega, rfl, rfl, fun _ => Nat.zero_le _, HLN, fun i r _ hr => HRR.out r (List.mem_of_getElem? hr), HD2, HS0.out _ hs1, HC2, Or.inl ⟨rfl, [], rfl, rfl, HF0.out⟩, HB2⟩
  case round =>
    obtain ⟨k, l, us', L', c, hk, hll, rfl, rfl, hin, HUL, HRL, HD, HS, HC, HCS, HB⟩ := hrel
    by_cases hlt : k < n
    · have hkL : k < L.length := by have := HLL.out; omega
      have hku : k < us'.length := by have := HUL.out; omega
      have hkL' : k < L'.length := by rw [← HD.out.2.1]; exact hku
      obtain ⟨m1, c2, HX⟩ : ∃ m1 c2, Hid (cnum s c = (m1, c2)) := ⟨_, _, rfl⟩
      obtain ⟨hin2, hm1⟩ : InP s c2 ∧ m1 < 9223372036854775808 := by have h1 := cnum_in s c hin; rw [HX.out] at h1; exact h1
      obtain ⟨f1, f2⟩ := unfold_bd (m1 : Int) (by omega)
      obtain ⟨d, HDD⟩ : ∃ d, Hid (d = unfold (m1 : Int)) := ⟨_, (rfl : unfold (m1 : Int) = _)⟩
      rw [← HDD.out] at f1 f2
      have hvne : (Value.slice (some ⟨g0, 0, none⟩) n cap).ownBlock ≠ some w1.heap.size := by simp [Value.ownBlock]; omega
      go_wp2_with fail
      refine (knumber_all w1.heap.size s c c2 m1 _ HC.out hin (by omega) HX).mono ?_
      rintro e w2 ⟨rfl, hc2, hf2⟩
      have HD3 : Hid (Deep base w2 (.slice (some ⟨g0, 0, none⟩) n cap) us' L') := HD.out.grownBy hf2.out.g hvne HS.out
      have HB3 : Hid (Below base w w2) := HB.out.grown hf2.out.g (by have := HB.out.size; omega) (fun g hg => by cases hg; omega)
      have hC2 := hc2.out.lt
      clear hf2
      go_wp2_with fail
      refine (punfold_any m1 _ (by omega) (by omega)).mono ?_
      rintro e w2' ⟨rfl, rfl⟩
      rw [← HDD.out]
      by_cases ho : (l : Int) + d < 0 ∨ (all.length : Int) ≤ l + d
      · obtain ⟨c3, HC3⟩ : ∃ c3, Hid (cfl c2 4 = c3) := ⟨_, (rfl : cfl c2 4 = _)⟩
        have hz3 : c3.z ≠ 0 := by
          rw [← HC3.out]
          unfold cfl
          split
          · simp
          · assumption
        have hzz : ((c3.z : Int) != 0) = true := by simp [hz3]
        have HF : Hid (fill all 0 L s.data.toList = none) := HCS.out.out hkL HX.out (by rw [← HDD.out]; exact ho)
        have hcase : (l : Int) + d < 0 ∨ (0 ≤ (l : Int) + d ∧ (all.length : Int) ≤ l + d) := by omega
        clear ho hz3
        rcases hcase with q1 | ⟨q1, q2⟩
        all_goals
          go_wp2_with fail
          refine (kfail_all w1.heap.size s c2 c3 4 _ hc2.out HC3).mono ?_
          rintro e w4 ⟨rfl, hc4, hf4⟩
          have HB4 : Hid (Below base w w4) := HB3.out.grown hf4.out.g (by have := HB3.out.size; omega) (fun g hg => by cases hg; omega)
          clear hf4
          go_wp2_with fail
          refine (cerr_any w1.heap.size s _ _ _ hc4.out).mono ?_
          rintro e w5 ⟨rfl, rfl⟩
          go_wp2
          go_ret
          exact ⟨colP_none HF.out hzz, HB4.out⟩
      · obtain ⟨l2, hl2⟩ := Int.eq_ofNat_of_zero_le (show 0 ≤ (l : Int) + d from by omega)
        have hl2a : l2 < all.length := by omega
        have g3 : 0 ≤ (l : Int) + d := by omega
        have g4 : (l : Int) + d < (all.length : Int) := by omega
        obtain ⟨row, HRW⟩ : ∃ row, Hid (L'[k]? = some row) := ⟨_, (row_at hkL' : L'[k]? = some L'[k])⟩
        have HCS2 : Hid (ColS s all L (L'.set k (row ++ [all[l2]])) (k + 1) l2 c2) := HCS.out.next hkL HX.out (by rw [← HDD.out]; exact hl2) hl2a HRW.out
        have HL2 : Hid ((l : Int) + d = (l2 : Int)) := hl2
        have hl2t : ((l : Int) + d).toNat = l2 := by rw [hl2]; rfl
        obtain ⟨st, HST⟩ : ∃ st, Hid (st = str all[l2]) := ⟨_, (rfl : str all[l2] = _)⟩
        have hal2 := HA.out.low HB3.out HAB.out
        obtain ⟨ab, aoff, ha1, ca⟩ : ∃ ab aoff, aa = some ⟨ab, aoff, none⟩ ∧ w2.cell? ⟨ab, aoff + ((l : Int) + d).toNat, none⟩ = some (.string st) := by
          rw [hl2t, HST.out]
          obtain ⟨a', c', he, hh⟩ := hal2
          cases he
          rcases hh with ⟨hh, -⟩ | ⟨ab, aoff, rfl, hh⟩
          · rw [hh] at hl2a; simp at hl2a
          · exact ⟨ab, aoff, rfl, hh l2 _ (get_at hl2a)⟩
        subst ha1
        have hrl : row.length ≤ 1048576 := HRL.out k row (Nat.le_refl _) HRW.out
        have HXO : Hid (w2.ownsRow base 9 1 us'[k] row.length (ts row)) := HD3.out.2.2 k _ _ (val_at hku) HRW.out
        obtain ⟨xa, xc, HXE⟩ : ∃ xa xc, Hid (us'[k] = .slice xa row.length xc) := by
          obtain ⟨xa, xc, h5⟩ := ownShape HXO.out
          exact ⟨xa, xc, h5⟩
        have HXK : Hid (us'[k]? = some (.slice xa row.length xc)) := by show _ = _; rw [val_at hku, HXE.out]
        rw [HXE.out] at HXO
        have ck : w2.cell? ⟨g0, k, none⟩ = some (.slice xa row.length xc) := by
          have h5 := HD3.out.1
          rw [HUL.out] at h5
          exact own_get h5 k _ HXK.out
        have hsz2 : base ≤ w2.heap.size := by have := hC2; omega
        clear ho hl2 hl2t hal2
        have HXD : Hid ((w2.drewN 1).ownsRow base 9 1 (.slice xa row.length xc) row.length (ts row)) := own_draws HXO.out 1
        have HDD3 : Hid (Deep base (w2.drewN 1) (.slice (some ⟨g0, 0, none⟩) n cap) us' L') := HD3.out.kept (below_drewN (Below.refl _ _) 1)
        have HOUT : Hid (∀ w3, ((w2.drewN 1).alloc (.cells #[.string st] 9)).grownBy w3 (Value.slice xa row.length xc).ownBlock → w3.ownsRow base 45 1 (.slice (some ⟨g0, 0, none⟩) n cap) n us') := by
          intro w3 hg3
          have h5 := HDD3.out.1.alloc (.cells #[.string st] 9)
          have h6 := h5.kept hg3 (kind_ne h5 (HXD.out.alloc _) (by decide))
          rw [HUL.out] at h6; exact h6
        have hg2 : g0 < w2.heap.size := World.block_lt_of_cell? w2 ⟨g0, k, none⟩ ck
        have ck2 : (w2.alloc (.cells #[.string st] 9)).drew.cell? ⟨g0, k, none⟩ = some (.slice xa row.length xc) :=
          (((Below.refl w2.heap.size w2).alloc (Nat.le_refl _) (.cells #[.string st] 9)).cell (p := ⟨g0, k, none⟩) hg2).trans ck
        go_wp2_with fail
        go_region_law
          (first
            | (refine step_append_lies _ rfl _ _ 45 rfl base 9 j0 (.string { data := #[] }) 1 16 Tryz.underlying45 hj hy0 hy1 hy2 rfl (by decide) _ _ (ts row) rfl (HXD.out.alloc _) ⟨w2.heap.size, 0, none⟩ 1 1 [.string st] rfl rfl (fun j' u hj' => by match j', hj' with | 0, hj' => simp at hj'; subst hj'; exact World.cell?_alloc_at _ _ _ _ rfl) (fun u hu => by simp at hu; subst hu; rfl) (by decide) (by unfold maxLen; omega) (by omega) (by simp; omega) _ rfl ?_; intro g cp w3 hown3 hg3 hat3 hlt3; have m0 := own_get (HOUT.out w3 hg3) k _ HXK.out; have m1 := own_thaw (HOUT.out w3 hg3) k))
        all_goals
          have hO3 : w3.ownsRow base 9 1 (.slice (some ⟨g, 0, none⟩) (row.length + 1) cp) (row ++ [all[l2]]).length (ts (row ++ [all[l2]])) := by
            rw [HST.out, ts_snoc] at hown3
            rw [List.length_append]; exact hown3
          have hat4 : (Value.slice (some ⟨g, 0, none⟩) (row.length + 1) cp).ownBlock = (Value.slice xa row.length xc).ownBlock ∨ (Value.slice (some ⟨g, 0, none⟩) (row.length + 1) cp).ownBlock = some ((w2.drewN 1).alloc (.cells #[.string st] 9)).heap.size := by
            rcases hat3 with h5 | h5
            · exact Or.inl h5.symm
            · exact Or.inr (by rw [h5]; rfl)
          have hg3' : ((w2.drewN 1).alloc (.cells #[.string st] 9)).grownBy w3 (Value.slice xa row.length xc).ownBlock := hg3
          have hmore := HDD3.out.more (b := w1.heap.size) (n := n) HS.out hC2 HUL.out HXK.out HRW.out hO3 hg3' hat4
          have hbA : Below w2.heap.size w2 ((w2.drewN 1).alloc (.cells #[.string st] 9)) := (below_drewN (Below.refl _ _) 1).alloc (Nat.le_refl _) _
          have hxne : (Value.slice xa row.length xc).ownBlock ≠ some w1.heap.size := HS.out.2 k _ HXK.out
          have hzA : ((w2.drewN 1).alloc (.cells #[.string st] 9)).heap.size = w2.heap.size + 1 := by simp
          have HCU : Hid (Cur (w3.setCell ⟨g0, k, none⟩ (.slice (some ⟨g, 0, none⟩) (row.length + 1) cp)) w1.heap.size s (c2.a : Nat) (c2.z : Nat)) :=
            ((hc2.out.kept (hbA.block _ hC2)).kept (hg3'.block w1.heap.size (by omega) (fun e => hxne e.symm))).elsewhere (by omega) _
          have hgB : base ≤ ((w2.drewN 1).alloc (.cells #[.string st] 9)).heap.size := by omega
          have HB4 : Hid (Below base w (w3.setCell ⟨g0, k, none⟩ (.slice (some ⟨g, 0, none⟩) (row.length + 1) cp))) := ((HB3.out.trans (hbA.mono hsz2)).grown hg3' hgB (fun g hg => (HXO.out.lt _ hg).1)).setCell (p := ⟨g0, k, none⟩) hg0.1 _
          have HD4 : Hid (Deep base (w3.setCell ⟨g0, k, none⟩ (.slice (some ⟨g, 0, none⟩) (row.length + 1) cp)) (.slice (some ⟨g0, 0, none⟩) n cap) (us'.set k (.slice (some ⟨g, 0, none⟩) (row.length + 1) cp)) (L'.set k (row ++ [all[l2]]))) := hmore.1
          have HS4 : Hid (Sep w1.heap.size (us'.set k (.slice (some ⟨g, 0, none⟩) (row.length + 1) cp))) := hmore.2
          have HU4 : Hid ((us'.set k (Value.slice (some ⟨g, 0, none⟩) (row.length + 1) cp)).length = n) := by show _ = _; rw [List.length_set]; exact HUL.out
          have HR4 : Hid (∀ i r, k + 1 ≤ i → (L'.set k (row ++ [all[l2]]))[i]? = some r → r.length ≤ 1048576) := by
            intro i r hi hr
            rw [List.getElem?_set_ne (by omega)] at hr
            exact HRL.out i r (by omega) hr
          clear hown3 hg3 hg3' hat3 hat4 hO3 hmore hbA ca ck ck2 hzA hgB m0 m1 hlt3
          go_wp2
          go_roundw
          case rel => exact ⟨k + 1, l2, _, _, c2, by omega, by omega, by go_num, by rw [HL2.out], hin2, HU4, HR4, HD4, HS4, HCU, HCS2, HB4⟩
          case measure => simp [intOf]; omega
    · have HCE : Hid (ColP base 0 (.slice (some ⟨g0, 0, none⟩) n cap) (fill all 0 L s.data.toList) (.returned (.int .i64 (c.z : Nat))) wr) := by
        rcases HCS.out with ⟨hz0, out, ho, hL, hf⟩ | ⟨hz0, hf⟩
        · rw [List.drop_eq_nil_of_le (by have := HLL.out; omega)] at hf hL
          rw [hf, hz0]
          rw [List.append_nil] at hL
          have hD := HD.out
          rw [hL] at hD
          refine ⟨rfl, us', by simpa using hD, HS.out.1, fun i x hx e => ?_⟩
          have hil : i < L'.length := by rw [← HD.out.2.1]; exact lt_of_some hx
          have := ((HD.out.2.2 i x _ hx (row_at hil)).lt _ e).1
          omega
        · rw [hf]; exact ⟨_, by simp [hz0], rfl⟩
      go_wp2_with fail
      refine (cerr_any w1.heap.size s _ _ _ HC.out).mono ?_
      rintro e w5 ⟨rfl, rfl⟩
      go_wp2
      go_ret
      exact ⟨HCE.out, HB.out⟩
end Go.Proofs.YtnnldpccagajbaaGreatDoor
