import Derived.Test.YtdfbjnachakkhaaGreatDoorM10
import Derived.Test.YtdfbjnachakkhaaGreatDoorM11
namespace Go.Proofs.YtdfbjnachakkhaaGreatDoor
open Go.ChangeShapes Go.WideShapes Go.ChangeAt Go.RowKit Go.WideMaps Go.Maps
set_option linter.unusedVariables false
set_option maxRecDepth 100000
set_option maxHeartbeats 1000000 in
theorem text_any (base S nm rm : Nat) (l : List (List UInt8)) (k : Nat) (t : List UInt8) (w : World) (vl : Value) (D : DataW Unit) (h : TX base S nm rm l w vl D) (hk : l[k]? = some t) (hl : l.length ≤ 10000000) :
    Calls Tryz.prog 73 #[.pointer (some ⟨S, 0, none⟩), .int .i64 (k : Nat)] w fun e w' => e = .returned (.string (str t)) ∧ w' = w := by
  have HI := hide h
  have c0 := cell_of h.blk 0 _ (storeC0 _ _ _)
  have hkl : k < l.length := (List.getElem?_eq_some_iff.1 hk).1
  obtain ⟨va, vc, hve⟩ := own_form h.lst
  obtain ⟨g, hg⟩ : ∃ g, va = some ⟨g, 0, none⟩ := by
    rcases h.lst.2 with ⟨e, e0⟩ | ⟨g, cap, cur, e, _⟩
    · omega
    · rw [hve] at e; injection e with e1 e2 e3; exact ⟨g, e1⟩
  have hob : vl.ownBlock = some g := by rw [hve, hg]; rfl
  have c1 := own_cell h.lst hob k _ (ts_at hk)
  obtain ⟨m, HM⟩ : ∃ m, Hid (m = l.length) := ⟨_, rfl⟩
  rw [← HM.out] at hve hl hkl
  rw [hve, hg] at c0
  clear h hk
  go_enter Tryz.func73, Tryz.ntmps73
  go_wp2
  go_ret
  exact ⟨rfl, rfl⟩
/-- texts by their numbers, the first i of them -/
def tfill (l : List (List UInt8)) (ks : List Nat) (i : Nat) : List Value := ((ks.take i).map fun k => Value.string (str (l.getD k []))) ++ List.replicate (ks.length - i) (.string { data := #[] })
theorem tfill_len (l : List (List UInt8)) (ks : List Nat) (i : Nat) (h : i ≤ ks.length) : (tfill l ks i).length = ks.length := by simp [tfill]; omega
theorem tfill_step (l : List (List UInt8)) (ks : List Nat) (i : Nat) (h : i < ks.length) : (tfill l ks i).set i (.string (str (l.getD ks[i] []))) = tfill l ks (i + 1) := by
  have h1 : ((ks.take i).map fun k => Value.string (str (l.getD k []))).length = i := by simp; omega
  unfold tfill
  obtain ⟨d, hd⟩ : ∃ d, ks.length - i = d + 1 := ⟨ks.length - i - 1, by omega⟩
  have hd2 : ks.length - (i + 1) = d := by omega
  rw [List.set_append_right _ _ (by omega), h1, hd, hd2, Nat.sub_self, List.replicate_succ, List.set_cons_zero, List.take_succ_eq_append_getElem h, List.map_append]
  simp
theorem tfill_end (l : List (List UInt8)) (ks : List Nat) : tfill l ks ks.length = ts (ks.map fun k => l.getD k []) := by
  unfold tfill ts
  rw [List.take_length, Nat.sub_self, List.replicate_zero, List.append_nil, List.map_map]
  rfl
set_option maxHeartbeats 1000000 in
theorem textsOf_any (base S nm rm B : Nat) (l : List (List UInt8)) (ks : List Nat) (v : Value) (w : World) (vl : Value) (D : DataW Unit) (h : TX base S nm rm l w vl D) (hks : w.ownsRow B 3 1 v ks.length (numV ks)) (hb : ∀ k ∈ ks, k < l.length) (hl : l.length ≤ 10000000) (hn : ks.length ≤ 100000) :
    Calls Tryz.prog 36 #[.pointer (some ⟨S, 0, none⟩), v] w fun e w' => (∃ v', e = .returned v' ∧ w'.ownsRow w.heap.size 9 1 v' ks.length (ts (ks.map fun k => l.getD k []))) ∧ w.grownBy w' none := by
  obtain ⟨i9, hi, hz0, hz1, hz2⟩ := info_parts info9
  have HI := hide h
  have HK := hide hks
  have HB := hide hb
  obtain ⟨va, vc, hve⟩ := own_form hks
  clear h hks hb
  obtain ⟨n, HN⟩ : ∃ n, Hid (n = ks.length) := ⟨_, rfl⟩
  rw [← HN.out] at hve hn ⊢
  rw [hve]
  have hwsz : w.heap.size ≤ w.heap.size := Nat.le_refl _
  go_enter Tryz.func36, Tryz.ntmps36
  go_wp2_with (at_make; refine wpList_make_full _ rfl _ _ 28 rfl w.heap.size 9 i9 (.string { data := #[] }) 1 Tryz.underlying28 hi hz0 hz1 .i64 .i64 _ _ n rfl rfl rfl rfl (by rw [hz2]; omega) (by unfold maxLen; omega) hwsz ?_)
  intro w2 hown2 hg2
  have HO2 : Hid (w2.ownsRow w.heap.size 9 1 (.slice (some ⟨w.heap.size, 0, none⟩) n n) n (tfill l ks 0)) := by
    have h5 := hown2
    rw [toList_madeCells_one] at h5
    unfold tfill
    rw [List.take_zero, ← HN.out]
    exact h5
  have HG2 := hide hg2
  obtain ⟨gn, HGN⟩ : ∃ gn, Hid (w.heap.size = gn) := ⟨_, (rfl : _ = _)⟩
  rw [HGN.out] at HO2 ⊢
  clear hown2 hg2
  go_wp2_with fail
  go_loopw [13] (fun iv wr => ∃ i : Nat, i ≤ n ∧ iv = .int .i64 i ∧ Hid (wr.ownsRow gn 9 1 (.slice (some ⟨gn, 0, none⟩) n n) n (tfill l ks i)) ∧ Hid (w.grownBy wr none)) (fun iv _ => n - (intOf iv).toNat)
  case atStart => exact ⟨0, Nat.zero_le _, rfl, HO2, HG2⟩
  case round =>
    obtain ⟨i, hi, rfl, HO, HG⟩ := hrel
    by_cases hlt : i < n
    · have hlt' : i < ks.length := by rw [← HN.out]; exact hlt
      obtain ⟨k, HKE⟩ : ∃ k, Hid (k = ks[i]) := ⟨ks[i], (rfl : ks[i] = _)⟩
      have hkl : k < l.length := HB.out k (by rw [HKE.out]; exact List.getElem_mem _)
      obtain ⟨t, HT⟩ : ∃ t, Hid (l[k]? = some t) := ⟨_, List.getElem?_eq_getElem hkl⟩
      have HTX := hide (text_any base S nm rm l k t wr vl D (HI.out.grown HG.out) HT.out hl)
      obtain ⟨g, hg⟩ : ∃ g, va = some ⟨g, 0, none⟩ := by
        rcases HK.out.2 with ⟨e, e0⟩ | ⟨g, cap, cur, e, _⟩
        · omega
        · rw [hve] at e; injection e with e1 e2 e3; exact ⟨g, e1⟩
      have hob : v.ownBlock = some g := by rw [hve, hg]; rfl
      have c1 := own_cell HK.out hob i (.int .i64 (k : Nat)) (by rw [HKE.out]; simp [numV, hlt'])
      have c2 := (FrS.none (S := fun _ => False) HG.out).cell c1 (by simp)
      have hkb : k ≤ 10000000 := by omega
      obtain ⟨s, HS⟩ : ∃ s, Hid (s = str t) := ⟨_, rfl⟩
      rw [← HS.out] at HTX
      rw [hg]
      have hln := tfill_len l ks i (by omega)
      rw [← HN.out] at hln
      obtain ⟨u0, hu0⟩ : ∃ u, (tfill l ks i)[i]? = some u := ⟨_, List.getElem?_eq_getElem (by omega)⟩
      have c3 : wr.cell? ⟨gn, i, none⟩ = some u0 := own_cell HO.out (g := gn) rfl i _ hu0
      have c4 := own_thaw HO.out i
      have R1 : Hid ((wr.setCell ⟨gn, i, none⟩ (.string s)).ownsRow gn 9 1 (.slice (some ⟨gn, 0, none⟩) n n) n (tfill l ks (i + 1))) := by
        have h1 := own_set HO.out i (.string s)
        rw [← tfill_step l ks i hlt', ← HKE.out, List.getD_eq_getElem?_getD, HT.out]
        rw [HS.out] at h1 ⊢
        exact h1
      have R2 : Hid (w.grownBy (wr.setCell ⟨gn, i, none⟩ (.string s)) none) := fr_far HG.out (FrS.of (S := fun j => j = gn) (fr_set wr gn i (.string s)) (fun g e => .inl (Option.some.inj e).symm)) (fun j hj e => by have := HGN.out; omega)
      clear c1 hln hu0 hkl hob
      go_wp2_with fail
      refine HTX.out.mono ?_
      rintro _ _ ⟨rfl, rfl⟩
      go_wp2
      go_roundw
      case rel => exact ⟨i + 1, by omega, by go_num, R1, R2⟩
      case measure => simp [intOf]; omega
    · have hkm : i = n := by omega
      subst hkm
      go_wp2
      go_ret
      refine ⟨⟨_, rfl, ?_⟩, HG.out⟩
      rw [← tfill_end, ← HN.out, HGN.out]
      exact HO.out
end Go.Proofs.YtdfbjnachakkhaaGreatDoor

namespace Go.Proofs.YtdfbjnachakkhaaGreatDoor
open Go.ChangeShapes Go.WideShapes Go.ChangeAt Go.RowKit
set_option linter.unusedVariables false
def ordB (x y : List UInt8) : Int := if Op.bytesLess x y then -1 else if Op.bytesLess y x then 1 else 0
set_option maxRecDepth 100000 in
set_option maxHeartbeats 400000 in
theorem isNaN_any (s : ByteArray) (w : World) : Calls Tryz.prog 163 #[.string s] w fun e w' => e = .returned (.bool false) ∧ w = w' := by
  have hs : (s.toList == s.toList) = true := by simp
  go_enter Tryz.func163, Tryz.ntmps163
  go_wp2
  go_ret
  exact ⟨by simp, rfl⟩
set_option maxRecDepth 100000 in
set_option maxHeartbeats 1000000 in
theorem ccompare_any (s t : ByteArray) (w : World) : Calls Tryz.prog 114 #[.string s, .string t] w fun e w' => e = .returned (.int .i64 (ordB s.data.toList t.data.toList)) ∧ w = w' := by
  cases h1 : Op.bytesLess s.data.toList t.data.toList with
  | true =>
    have HE : Hid (ordB s.data.toList t.data.toList = -1) := by show _ = _; unfold ordB; rw [h1]; rfl
    have hs1 : Op.bytesLess s.toList t.toList = true := by rw [toList_of, toList_of]; exact h1
    clear h1
    go_enter Tryz.func114, Tryz.ntmps114
    go_wp2_with fail
    refine (isNaN_any s _).mono ?_
    rintro e w1 ⟨rfl, rfl⟩
    go_wp2_with fail
    refine (isNaN_any t _).mono ?_
    rintro e w1 ⟨rfl, rfl⟩
    go_wp2
    go_ret
    exact ⟨ret_int HE.out.symm, rfl⟩
  | false =>
    have hs1 : Op.bytesLess s.toList t.toList = false := by rw [toList_of, toList_of]; exact h1
    cases h2 : Op.bytesLess t.data.toList s.data.toList with
    | true =>
      have HE : Hid (ordB s.data.toList t.data.toList = 1) := by show _ = _; unfold ordB; rw [h1, h2]; rfl
      have hs2 : (s.toList == t.toList) = false := by
        rw [toList_of, toList_of, beq_eq_false_iff_ne]; intro he; rw [he, less_irrefl] at h2; cases h2
      clear h1 h2
      go_enter Tryz.func114, Tryz.ntmps114
      go_wp2_with fail
      refine (isNaN_any s _).mono ?_
      rintro e w1 ⟨rfl, rfl⟩
      go_wp2_with fail
      refine (isNaN_any t _).mono ?_
      rintro e w1 ⟨rfl, rfl⟩
      go_wp2
      go_ret
      exact ⟨ret_int HE.out.symm, rfl⟩
    | false =>
      have HE : Hid (ordB s.data.toList t.data.toList = 0) := by show _ = _; unfold ordB; rw [h1, h2]; rfl
      have he := less_eq h1 h2
      have hs2 : (s.toList == t.toList) = true := by rw [toList_of, toList_of, he]; simp
      clear h1 h2 he
      go_enter Tryz.func114, Tryz.ntmps114
      go_wp2_with fail
      refine (isNaN_any s _).mono ?_
      rintro e w1 ⟨rfl, rfl⟩
      go_wp2_with fail
      refine (isNaN_any t _).mono ?_
      rintro e w1 ⟨rfl, rfl⟩
      go_wp2
      go_ret
      exact ⟨ret_int HE.out.symm, rfl⟩
theorem ordR_cons (x y : List UInt8) (a b : List (List UInt8)) : ordR (x :: a) (y :: b) = if ordB x y = 0 then ordR a b else ordB x y := by
  rw [ordR]; unfold ordB
  split
  · simp
  · split
    · simp
    · simp
set_option maxRecDepth 100000 in
set_option maxHeartbeats 1000000 in
theorem scompare_any (va vb : Value) (la lb : List (List UInt8)) (w : World) (ha : Strs w va la) (hb : Strs w vb lb) (hlen : la.length = lb.length) (hl : la.length ≤ 140737488355328) :
    Calls Tryz.prog 75 #[va, vb] w fun e w' => e = .returned (.int .i64 (ordR la lb)) ∧ ∃ n, w' = w.drewN n := by
  obtain ⟨a, cap, rfl, ha⟩ := ha
  obtain ⟨b, cap2, rfl, hb⟩ := hb
  rcases ha with ⟨rfl, _⟩ | ⟨ba, oa, rfl, ha⟩
  · have hb0 : lb = [] := List.eq_nil_of_length_eq_zero (by simpa using hlen.symm)
    subst hb0
    clear hb hlen
    go_enter Tryz.func75, Tryz.ntmps75
    go_wp2
    refine wp_loop_rounds 1 ?_
    rw [rounds_succ]
    go_wp2
    go_ret
    exact ⟨rfl, 0, rfl⟩
  · rcases hb with ⟨rfl, _⟩ | ⟨bb, ob, rfl, hb⟩
    · have ha0 : la = [] := List.eq_nil_of_length_eq_zero (by simpa using hlen)
      subst ha0
      clear ha hlen
      go_enter Tryz.func75, Tryz.ntmps75
      go_wp2
      refine wp_loop_rounds 1 ?_
      rw [rounds_succ]
      go_wp2
      go_ret
      exact ⟨rfl, 0, rfl⟩
    · have HA : Hid (∀ (i : Nat) (x : List UInt8), la[i]? = some x → w.cell? ⟨ba, oa + i, none⟩ = some (.string (str x))) := ha
      have HB : Hid (∀ (i : Nat) (x : List UInt8), lb[i]? = some x → w.cell? ⟨bb, ob + i, none⟩ = some (.string (str x))) := hb
      have HL : Hid (la.length = lb.length) := hlen
      rw [← hlen]
      clear ha hb hlen
      go_enter Tryz.func75, Tryz.ntmps75
      go_wp2
      go_loopw [11] (fun i wr => ∃ k n : Nat, k ≤ la.length ∧ i = .int .i64 k ∧ wr = w.drewN n ∧ Hid (ordR la lb = ordR (la.drop k) (lb.drop k))) (fun i _ => la.length - (intOf i).toNat)
      case atStart => exact ⟨0, 0, by omega, rfl, rfl, by simp [Hid]⟩
      case round =>
        obtain ⟨k, n, hk, rfl, rfl, HT⟩ := hrel
        by_cases hlt : k < la.length
        · have hlt2 : k < lb.length := by have := HL.out; omega
          have c1 := HA.out k la[k] (get_at hlt)
          have c2 := HB.out k lb[k] (get_at hlt2)
          have HU : Hid (ordR la lb = if ordB la[k] lb[k] = 0 then ordR (la.drop (k + 1)) (lb.drop (k + 1)) else ordB la[k] lb[k]) := by
            show _ = _; rw [HT.out, drop_row la k hlt, drop_row lb k hlt2, ordR_cons]
          have HCM : Hid (∀ wx, Calls Tryz.prog 114 #[.string (str la[k]), .string (str lb[k])] wx fun e w' => e = .returned (.int .i64 (ordB la[k] lb[k])) ∧ wx = w') := by
            intro wx
            have := ccompare_any (str la[k]) (str lb[k]) wx
            rw [data_str, data_str] at this
            exact this
          generalize str la[k] = sa at *
          generalize str lb[k] = sb at *
          by_cases ho : ordB la[k] lb[k] = 0
          · have HE : Hid (ordR la lb = ordR (la.drop (k + 1)) (lb.drop (k + 1))) := by show _ = _; rw [HU.out, if_pos ho]
            rw [ho] at HCM
            clear ho HU
            go_wp2_with fail
            refine (HCM.out _).mono ?_
            rintro e w1 ⟨rfl, rfl⟩
            go_wp2
            go_roundw
            case rel => exact ⟨k + 1, _, by omega, by go_num, rfl, HE⟩
            case measure => simp [intOf]; omega
          · have HE : Hid (ordR la lb = ordB la[k] lb[k]) := by show _ = _; rw [HU.out, if_neg ho]
            have hne : (ordB la[k] lb[k] != 0) = true := by simpa using ho
            clear HU
            generalize ordB la[k] lb[k] = o at *
            go_wp2_with fail
            refine (HCM.out _).mono ?_
            rintro e w1 ⟨rfl, rfl⟩
            go_wp2
            go_ret
            refine ⟨ret_int HE.out.symm, ?_⟩
            first | exact ⟨_, rfl⟩ | exact two_draws _ _ _
        · have HE : Hid (ordR la lb = 0) := by show _ = _; rw [HT.out, List.drop_of_length_le (l := la) (by omega)]; rfl
          go_wp2
          go_ret
          refine ⟨ret_int HE.out.symm, ?_⟩
          first | exact ⟨_, rfl⟩ | exact two_draws _ _ _
set_option maxRecDepth 100000 in
set_option maxHeartbeats 1000000 in
theorem sequal_any (va vb : Value) (la lb : List (List UInt8)) (w : World) (ha : Strs w va la) (hb : Strs w vb lb) (hlen : la.length = lb.length) (hl : la.length ≤ 140737488355328) :
    Calls Tryz.prog 77 #[va, vb] w fun e w' => e = .returned (.bool (la == lb)) ∧ ∃ n, w' = w.drewN n := by
  obtain ⟨a, cap, rfl, ha⟩ := ha
  obtain ⟨b, cap2, rfl, hb⟩ := hb
  have hll : ((la.length : Int) != (la.length : Int)) = false := by simp
  rw [← hlen]
  rcases ha with ⟨rfl, _⟩ | ⟨ba, oa, rfl, ha⟩
  · have hb0 : lb = [] := List.eq_nil_of_length_eq_zero (by simpa using hlen.symm)
    subst hb0
    clear hb hlen
    go_enter Tryz.func77, Tryz.ntmps77
    go_wp2
    refine wp_loop_rounds 1 ?_
    rw [rounds_succ]
    go_wp2
    go_ret
    exact ⟨rfl, 0, rfl⟩
  · rcases hb with ⟨rfl, _⟩ | ⟨bb, ob, rfl, hb⟩
    · have ha0 : la = [] := List.eq_nil_of_length_eq_zero (by simpa using hlen)
      subst ha0
      clear ha hlen
      go_enter Tryz.func77, Tryz.ntmps77
      go_wp2
      refine wp_loop_rounds 1 ?_
      rw [rounds_succ]
      go_wp2
      go_ret
      exact ⟨rfl, 0, rfl⟩
    · have HA : Hid (∀ (i : Nat) (x : List UInt8), la[i]? = some x → w.cell? ⟨ba, oa + i, none⟩ = some (.string (str x))) := ha
      have HB : Hid (∀ (i : Nat) (x : List UInt8), lb[i]? = some x → w.cell? ⟨bb, ob + i, none⟩ = some (.string (str x))) := hb
      have HL : Hid (la.length = lb.length) := hlen
      clear ha hb hlen
      go_enter Tryz.func77, Tryz.ntmps77
      go_wp2
      go_loopw [13] (fun i wr => ∃ k n : Nat, k ≤ la.length ∧ i = .int .i64 k ∧ wr = w.drewN n ∧ Hid (la.take k = lb.take k)) (fun i _ => la.length - (intOf i).toNat)
      case atStart => exact ⟨0, 0, by omega, rfl, rfl, rfl⟩
      case round =>
        obtain ⟨k, n, hk, rfl, rfl, HT⟩ := hrel
        by_cases hlt : k < la.length
        · have hlt2 : k < lb.length := by have := HL.out; omega
          have c1 := HA.out k la[k] (get_at hlt)
          have c2 := HB.out k lb[k] (get_at hlt2)
          by_cases he : la[k] = lb[k]
          · have hs : ((str la[k]).toList == (str lb[k]).toList) = true := by rw [he]; simp
            have HE : Hid (la.take (k + 1) = lb.take (k + 1)) := by show _ = _; rw [take_next la k hlt, take_next lb k hlt2, HT.out, he]
            generalize str la[k] = sa at *
            generalize str lb[k] = sb at *
            clear he
            go_wp2
            go_quiet (fail)
            go_wp2
            go_roundw
            case rel => exact ⟨k + 1, _, by omega, by go_num, rfl, HE⟩
            case measure => simp [intOf]; omega
          · have hs : ((str la[k]).toList == (str lb[k]).toList) = false := by rw [toList_str, toList_str]; simp [he]
            have HE : Hid ((la == lb) = false) := by
              show _ = _
              rw [beq_eq_false_iff_ne]
              intro h; subst h; exact he rfl
            generalize str la[k] = sa at *
            generalize str lb[k] = sb at *
            clear he
            go_wp2
            go_quiet (fail)
            go_wp2
            go_ret
            refine ⟨ret_bool HE.out.symm, ?_⟩
            first | exact ⟨_, rfl⟩ | exact two_draws _ _ _
        · have HE : Hid ((la == lb) = true) := by
            show _ = _
            rw [beq_iff_eq]
            have := HT.out
            rw [List.take_of_length_le (by omega), List.take_of_length_le (by have := HL.out; omega)] at this
            exact this
          go_wp2
          go_ret
          refine ⟨ret_bool HE.out.symm, ?_⟩
          first | exact ⟨_, rfl⟩ | exact two_draws _ _ _
end Go.Proofs.YtdfbjnachakkhaaGreatDoor
