import Derived.Test.YtdfbjnachakkhaaGreatDoorM08
import Derived.Test.YtdfbjnachakkhaaGreatDoorM09
import Derived.Maps.OwnOps
namespace Go.Proofs.YtdfbjnachakkhaaGreatDoor
open Go.ChangeShapes Go.WideShapes Go.ChangeAt Go.RowKit Go.WideMaps Go.Maps
set_option linter.unusedVariables false
set_option maxRecDepth 100000
theorem keyedT : Keyed Tryz.prog 9 := string_keyed Tryz.underlying9
theorem zeroIntT (w : World) : (zeroValue 3).run Tryz.prog w = .ok (.int .i64 0) w := by kernel_rfl
theorem keyT (x : List UInt8) (h : x.length ≤ 1000) : keyOf Tryz.prog 9 (.string (str x)) = some (.string x) := by
  have := keyOf_string_mk Tryz.underlying9 (s := str x) (by rw [str_size]; unfold maxLen; omega)
  rw [data_str] at this; exact this
/-- the numbers of texts, as a map reads -/
structure NumT (D : DataW Unit) (l : List (List UInt8)) : Prop where
  isMap : IsMap D
  has : ∀ n, Maps.has D (.string n) = l.contains n
  at' : ∀ n, l.contains n = true → D.atKey (.string n) (.lit (.int .i64 0)) = .lit (.int .i64 (l.idxOf n : Nat))
theorem NumT.nil : NumT (.map []) [] := ⟨isMap_empty, fun n => rfl, fun n h => by simp at h⟩
/-- one text more, if it isn't there -/
def addT (l : List (List UInt8)) (t : List UInt8) : List (List UInt8) := if l.contains t then l else l ++ [t]
theorem NumT.put {D : DataW Unit} {l : List (List UInt8)} (h : NumT D l) (x : List UInt8) (hx : l.contains x = false) : NumT (D.put (.string x) (.lit (.int .i64 (l.length : Nat)))) (l ++ [x]) := by
  have hx' : x ∉ l := by simpa using hx
  refine ⟨h.isMap.put _ _, fun n => ?_, fun n hn => ?_⟩
  · by_cases e : n = x
    · subst e; rw [has_put_same h.isMap (by simp [WideAt.IsKeyLit])]; simp
    · rw [has_put_other (by intro e2; injection e2 with e3; exact e e3), h.has]; simp [e]
  · by_cases e : n = x
    · subst e
      rw [atKey_put_same h.isMap (by simp [WideAt.IsKeyLit]), List.idxOf_append]
      simp [hx']
    · have hm : n ∈ l := by simp [e] at hn; exact hn
      rw [atKey_put_other (by intro e2; injection e2 with e3; exact e e3), h.at' n (by simpa using hm), List.idxOf_append]
      simp [hm]
/-- a store's texts, as they lie -/
structure TX (base S nm rm : Nat) (l : List (List UInt8)) (w : World) (vl : Value) (D : DataW Unit) : Prop where
  blk : w.heap[S]? = some (.cells #[vl, .map (some nm), .map (some rm)] 103 (0, 0))
  lst : w.ownsRow base 9 1 vl l.length (ts l)
  num : w.ownsMap Tryz.prog 9 (plainElem Tryz.prog 3) nm l.length D
  nmd : NumT D l
  lens : ∀ t ∈ l, t.length ≤ 1000
  lowS : base ≤ S
  lowN : base ≤ nm
/-- what a new number may change -/
def TxS (base S nm : Nat) (w : World) (i : Nat) : Prop := i = S ∨ i = nm ∨ (base ≤ i ∧ ∃ cur fz, w.heap[i]? = some (.cells cur 9 fz))
theorem TX.kept {base S nm rm : Nat} {l : List (List UInt8)} {w w' : World} {vl : Value} {D : DataW Unit} (h : TX base S nm rm l w vl D) {Z : Nat → Prop} (hf : FrS Z w w') (hS : ¬ Z S) (hn : ¬ Z nm) (hc : ∀ g cur fz, base ≤ g → w.heap[g]? = some (.cells cur 9 fz) → ¬ Z g) : TX base S nm rm l w' vl D :=
  ⟨by rw [hf.block S (Array.getElem?_eq_some_iff.1 h.blk).1 hS]; exact h.blk, hf.row h.lst (fun g cur fz hv hg hb => hc g cur fz hb hg), hf.map h.num hn, h.nmd, h.lens, h.lowS, h.lowN⟩
theorem TX.grown {base S nm rm : Nat} {l : List (List UInt8)} {w w' : World} {vl : Value} {D : DataW Unit} (h : TX base S nm rm l w vl D) (hg : w.grownBy w' none) : TX base S nm rm l w' vl D :=
  h.kept (Z := fun _ => False) (FrS.none hg) (fun h => h) (fun h => h) (fun _ _ _ _ _ h => h)
theorem num_look {w : World} {nm n : Nat} {D : DataW Unit} {l : List (List UInt8)} (h : w.ownsMap Tryz.prog 9 (plainElem Tryz.prog 3) nm n D) (hD : NumT D l) (t : List UInt8) (ht : t.length ≤ 1000) :
    (Instr.lookup 72 (.map (some nm)) (.string (str t)) true).run Tryz.prog w = .ok (.tuple #[.int .i64 (if l.contains t then (l.idxOf t : Nat) else (0 : Nat)), .bool (l.contains t)]) w := by
  obtain ⟨v, ps, hrun, hv⟩ := h.look_ok keyedT Tryz.underlying72 (zeroIntT w) (zd := .lit (.int .i64 0)) (zp := []) (plainElem_int Tryz.underlying3 (WalkArith.wf_i64 (by omega))) (keyT t ht)
  obtain ⟨a, rfl, e, _⟩ := plainElem_int_inv Tryz.underlying3 hv
  have e1 : D.atKey (.string t) (.lit (.int .i64 0)) = .lit (.int .i64 a) := congrArg Prod.fst e
  rw [hrun, hD.has]
  by_cases hc : l.contains t = true
  · rw [hD.at' t hc] at e1
    injection e1 with e1; injection e1 with _ e1
    rw [hc, ← e1]; rfl
  · have hc' : l.contains t = false := by simpa using hc
    have hh := hD.has t
    rw [hc'] at hh
    rw [atKey_of_not_has hh] at e1
    injection e1 with e1; injection e1 with _ e1
    rw [hc', ← e1]; rfl
theorem storeC0 (vl : Value) (nm rm : Nat) : (#[vl, .map (some nm), .map (some rm)] : Array Value)[0]? = some vl := rfl
theorem storeC1 (vl : Value) (nm rm : Nat) : (#[vl, .map (some nm), .map (some rm)] : Array Value)[1]? = some (.map (some nm)) := rfl
theorem storeC2 (vl : Value) (nm rm : Nat) : (#[vl, .map (some nm), .map (some rm)] : Array Value)[2]? = some (.map (some rm)) := rfl
set_option maxHeartbeats 1000000 in
theorem number_any (base S nm rm : Nat) (l : List (List UInt8)) (t : List UInt8) (w : World) (vl : Value) (D : DataW Unit) (h : TX base S nm rm l w vl D) (ht : t.length ≤ 1000) (hl : l.length ≤ 10000000) :
    Calls Tryz.prog 99 #[.pointer (some ⟨S, 0, none⟩), .string (str t)] w fun e w' => e = .returned (.int .i64 ((addT l t).idxOf t : Nat)) ∧ (∃ vl' D', TX base S nm rm (addT l t) w' vl' D') ∧ FrS (TxS base S nm w) w w' := by
  have HI := hide h
  have hlk := num_look h.num h.nmd t ht
  have hkey := keyT t ht
  have c0 := cell_of h.blk 0 _ (storeC0 _ _ _)
  have c1 := cell_of h.blk 1 _ (storeC1 _ _ _)
  obtain ⟨va, vc, hve⟩ := own_form h.lst
  obtain ⟨m, HM⟩ : ∃ m, Hid (m = l.length) := ⟨_, rfl⟩
  rw [← HM.out] at hve hl
  rw [hve] at c0
  obtain ⟨s, HS⟩ : ∃ s, Hid (s = str t) := ⟨_, rfl⟩
  rw [← HS.out] at hlk hkey ⊢
  clear h
  cases hc : l.contains t with
  | true =>
    have HC := hide hc
    rw [hc] at hlk
    obtain ⟨k, HK⟩ : ∃ k, Hid (k = l.idxOf t) := ⟨_, rfl⟩
    have e : addT l t = l := by unfold addT; rw [hc]; rfl
    rw [e, ← HK.out]
    rw [if_pos rfl, ← HK.out] at hlk
    clear hc e
    go_enter Tryz.func99, Tryz.ntmps99
    go_wp2
    go_ret
    exact ⟨rfl, ⟨vl, D, HI.out⟩, FrS.refl _ _⟩
  | false =>
    have HC := hide hc
    rw [hc] at hlk
    have e : addT l t = l ++ [t] := by unfold addT; rw [hc]; rfl
    have hx' : t ∉ l := by simpa using hc
    have e2 : (l ++ [t]).idxOf t = m := by rw [List.idxOf_append, HM.out]; simp [hx']
    rw [e, e2]
    rw [if_neg (by simp)] at hlk
    clear hc e e2
    obtain ⟨w1, hup, hown1, hg1⟩ := HI.out.num.update keyedT Tryz.underlying72 (by rw [← HM.out]; unfold maxLen; omega) hkey (val := .int .i64 (m : Nat)) (plainElem_int Tryz.underlying3 (WalkArith.wf_i64 (by omega)))
    rw [← HM.out] at hown1
    obtain ⟨i9, hi, hz0, hz1, hz2⟩ := info_parts info9
    have hnS : nm ≠ S := by
      rintro rfl
      obtain ⟨es, ck, hq, _⟩ := HI.out.num
      rw [HI.out.blk] at hq; cases hq
    have hF1 : FrS (fun i => i = nm) w w1 := FrS.of hg1 (fun g e => .inl (Option.some.inj e).symm)
    have HF1 := hide hF1
    have hSl : S < w.heap.size := (Array.getElem?_eq_some_iff.1 HI.out.blk).1
    have hb1 : w1.heap[S]? = some (.cells #[vl, .map (some nm), .map (some rm)] 103 (0, 0)) := by rw [hF1.block S hSl (fun e => hnS e.symm)]; exact HI.out.blk
    have HB1 := hide hb1
    have d0 := cell_of hb1 0 _ (storeC0 _ _ _)
    rw [hve] at d0
    have HL1 : Hid (w1.ownsRow base 9 1 (.slice va m vc) m (ts l)) := by
      have := hF1.row HI.out.lst (fun g cur fz hv hg hb e => by
        obtain ⟨es, ck, hq, _⟩ := HI.out.num
        rw [show g = nm from e, hq] at hg; cases hg)
      rw [hve, ← HM.out] at this; exact this
    have hbs : base ≤ w1.heap.size := by have := HI.out.lowS; have := hF1.size; omega
    have HO1 := hide hown1
    clear hF1 hg1 hb1 hown1 hx'
    go_enter Tryz.func99, Tryz.ntmps99
    go_wp2_with (at_builtin; refine wpList_append_own_at _ rfl _ _ 28 rfl base 9 i9 (.string { data := #[] }) 1 16 Tryz.underlying28 hi hz0 hz1 hz2 rfl (by omega) _ _ _ rfl (HL1.out.alloc _) ⟨w1.heap.size, 0, none⟩ 1 1 [.string s] rfl rfl (cell_one_new _ _ _) (by simp [Value.oneCell']) (by unfold maxLen; omega) (by omega) (by simp; omega) ?_)
    intro v2 w5 hown5 hg5 hnil5 hat5
    have HF5 : Hid (FrS (fun i => vl.ownBlock = some i) w1 w5) := by
      rw [hve]
      exact FrS.trans (S' := fun i => (Value.slice va m vc).ownBlock = some i) (FrS.none (fr_alloc w1 _ none)) (FrS.of hg5 (fun g e => .inl e)) (fun i _ e => e)
    have hnuS : ¬ vl.ownBlock = some S := fun e => by
      obtain ⟨cur2, h2⟩ := own_type HI.out.lst e
      rw [HI.out.blk] at h2; injection h2 with h2; injection h2 with _ h3; cases h3
    have hSl1 : S < w1.heap.size := by have := HF1.out.size; omega
    have hblk5 : w5.heap[S]? = some (.cells #[vl, .map (some nm), .map (some rm)] 103 (0, 0)) := (HF5.out.block S hSl1 hnuS).trans HB1.out
    have m0 := cell_of hblk5 0 _ (storeC0 _ _ _)
    have m1 := thaw_of hblk5 0
    obtain ⟨xa, xc, hv2⟩ := own_form hown5
    obtain ⟨wD, HWD⟩ : ∃ wD, Hid (wD = w5.setCell ⟨S, 0, none⟩ v2) := ⟨_, rfl⟩
    have hwD : w5.setCell ⟨S, 0, none⟩ (.slice xa (m + 1) xc) = wD := by rw [← hv2]; exact HWD.out.symm
    have HBD : Hid (wD.heap[S]? = some (.cells #[v2, .map (some nm), .map (some rm)] 103 (0, 0))) := by
      rw [HWD.out]; exact blk_set hblk5 0 v2
    have HFD : Hid (FrS (fun i => vl.ownBlock = some i ∨ i = S) w1 wD) := by
      rw [HWD.out]
      exact FrS.trans (S' := fun i => i = S) (HF5.out.mono (fun i _ e => .inl e)) (FrS.of (fr_set w5 S 0 v2) (fun g e => .inl (Option.some.inj e).symm)) (fun i _ e => .inr e)
    have HLD : Hid (wD.ownsRow base 9 1 v2 (m + 1) (ts (l ++ [t]))) := by
      rw [HWD.out, ← ts_snoc, ← HS.out]
      exact row_kept hown5 (fun q cur fz hq hc => Below.heap_setCell _ _ _ _ (fun e => by
        have e' : q = S := e
        rw [e', hblk5] at hc; injection hc with hc; injection hc with _ h2; cases h2))
    clear hblk5 hown5 hg5 hat5 hnil5 d0 c0 c1 hlk hup
    rw [hv2]
    go_wp2
    go_ret
    refine ⟨rfl, ⟨v2, _, HBD.out, ?_, HFD.out.map (D := D.put (.string t) (.lit (.int .i64 (m : Nat)))) ?_ ?_, ?_, ?_, HI.out.lowS, HI.out.lowN⟩, ?_⟩
    · rw [List.length_append, List.length_singleton, ← HM.out]; exact HLD.out
    · rw [List.length_append, List.length_singleton, ← HM.out]; exact HO1.out
    · rintro (e | e)
      · obtain ⟨cur2, h2⟩ := own_type HI.out.lst e
        obtain ⟨es, ck, hq, _⟩ := HI.out.num
        rw [hq] at h2; cases h2
      · exact hnS e
    · rw [HM.out]; exact HI.out.nmd.put t HC.out
    · intro x hx
      rcases List.mem_append.1 hx with hx | hx
      · exact HI.out.lens x hx
      · rw [List.mem_singleton.1 hx]; exact ht
    · refine FrS.trans (S' := fun i => vl.ownBlock = some i ∨ i = S) (HF1.out.mono (fun i _ e => .inr (.inl e))) HFD.out (fun i hi e => ?_)
      rcases e with e | e
      · obtain ⟨cur2, h2⟩ := own_type HI.out.lst e
        exact .inr (.inr ⟨(own_blk HI.out.lst e).1, cur2, _, h2⟩)
      · exact .inl e
end Go.Proofs.YtdfbjnachakkhaaGreatDoor

namespace Go.Proofs.YtdfbjnachakkhaaGreatDoor
open Go.ChangeShapes Go.WideShapes Go.ChangeAt Go.RowKit
set_option linter.unusedVariables false
/-- -1, 0 or 1: does a row stand ahead of another one? -/
def ordR : List (List UInt8) → List (List UInt8) → Int
  | x :: a, y :: b => if Op.bytesLess x y then -1 else if Op.bytesLess y x then 1 else ordR a b
  | _, _ => 0
theorem ordR_nil_right (a : List (List UInt8)) : ordR a [] = 0 := by cases a <;> rfl
theorem less_eq {x y : List UInt8} (h1 : Op.bytesLess x y = false) (h2 : Op.bytesLess y x = false) : x = y := by
  have := less_or x y
  rw [h1, h2] at this
  simpa using this
theorem three_draws (w : World) (n m p : Nat) : ∃ k, ((w.drewN n).drewN m).drewN p = w.drewN k := ⟨n + m + p, by simp⟩
set_option maxRecDepth 100000 in
set_option maxHeartbeats 1000000 in
theorem order_any (va vb : Value) (la lb : List (List UInt8)) (w : World) (ha : Strs w va la) (hb : Strs w vb lb) (hl : la.length ≤ 140737488355328) (hl2 : lb.length ≤ 140737488355328) :
    Calls Tryz.prog 39 #[va, vb] w fun e w' => e = .returned (.int .i64 (ordR la lb)) ∧ ∃ n, w' = w.drewN n := by
  obtain ⟨a, cap, rfl, ha⟩ := ha
  obtain ⟨b, cap2, rfl, hb⟩ := hb
  rcases ha with ⟨rfl, _⟩ | ⟨ba, oa, rfl, ha⟩
  · go_enter Tryz.func39, Tryz.ntmps39
    go_wp2
    refine wp_loop_rounds 1 ?_
    rw [rounds_succ]
    go_wp2
    go_ret
    exact ⟨rfl, 0, rfl⟩
  · rcases hb with ⟨rfl, _⟩ | ⟨bb, ob, rfl, hb⟩
    · have HZ : Hid (ordR la [] = 0) := ordR_nil_right la
      clear ha
      go_enter Tryz.func39, Tryz.ntmps39
      go_wp2
      refine wp_loop_rounds 1 ?_
      rw [rounds_succ]
      go_wp2
      all_goals go_ret
      all_goals exact ⟨ret_int HZ.out.symm, 0, rfl⟩
    · have HA : Hid (∀ (i : Nat) (x : List UInt8), la[i]? = some x → w.cell? ⟨ba, oa + i, none⟩ = some (.string (str x))) := ha
      have HB : Hid (∀ (i : Nat) (x : List UInt8), lb[i]? = some x → w.cell? ⟨bb, ob + i, none⟩ = some (.string (str x))) := hb
      clear ha hb
      go_enter Tryz.func39, Tryz.ntmps39
      go_wp2
      go_loopw [5] (fun i wr => ∃ k n : Nat, k ≤ la.length ∧ k ≤ lb.length ∧ i = .int .i64 k ∧ wr = w.drewN n ∧ Hid (ordR la lb = ordR (la.drop k) (lb.drop k))) (fun i _ => la.length - (intOf i).toNat)
      case atStart => exact ⟨0, 0, by omega, by omega, rfl, rfl, by simp [Hid]⟩
      case round =>
        obtain ⟨k, n, hk, hk2, rfl, rfl, HT⟩ := hrel
        by_cases hlt : k < la.length
        · by_cases hlt2 : k < lb.length
          · have c1 := HA.out k la[k] (get_at hlt)
            have c2 := HB.out k lb[k] (get_at hlt2)
            have HU : Hid (ordR la lb = if Op.bytesLess la[k] lb[k] then -1 else if Op.bytesLess lb[k] la[k] then 1 else ordR (la.drop (k + 1)) (lb.drop (k + 1))) := by
              show _ = _; rw [HT.out, drop_row la k hlt, drop_row lb k hlt2]; rfl
            cases h1 : Op.bytesLess la[k] lb[k] with
            | true =>
              have HE : Hid (ordR la lb = -1) := by show _ = _; rw [HU.out, h1]; rfl
              have hs1 : Op.bytesLess (str la[k]).toList (str lb[k]).toList = true := by rw [toList_str, toList_str]; exact h1
              clear h1 HU
              generalize str la[k] = sa at *
              generalize str lb[k] = sb at *
              go_wp2
              go_quiet (fail)
              go_wp2
              go_ret
              refine ⟨ret_int HE.out.symm, ?_⟩
              first | exact ⟨_, rfl⟩ | exact two_draws _ _ _ | exact three_draws _ _ _ _
            | false =>
              have hs1 : Op.bytesLess (str la[k]).toList (str lb[k]).toList = false := by rw [toList_str, toList_str]; exact h1
              cases h2 : Op.bytesLess lb[k] la[k] with
              | true =>
                have HE : Hid (ordR la lb = 1) := by show _ = _; rw [HU.out, h1, h2]; rfl
                have hs2 : ((str la[k]).toList == (str lb[k]).toList) = false := by
                  rw [toList_str, toList_str, beq_eq_false_iff_ne]; intro he; rw [he, less_irrefl] at h2; cases h2
                clear h1 h2 HU
                generalize str la[k] = sa at *
                generalize str lb[k] = sb at *
                go_wp2
                go_quiet (fail)
                go_wp2
                go_quiet (fail)
                go_wp2
                go_ret
                refine ⟨ret_int HE.out.symm, ?_⟩
                first | exact ⟨_, rfl⟩ | exact two_draws _ _ _ | exact three_draws _ _ _ _
              | false =>
                have HE : Hid (ordR la lb = ordR (la.drop (k + 1)) (lb.drop (k + 1))) := by show _ = _; rw [HU.out, h1, h2]; rfl
                have he := less_eq h1 h2
                have hs2 : ((str la[k]).toList == (str lb[k]).toList) = true := by rw [he]; simp
                clear h1 h2 HU he
                generalize str la[k] = sa at *
                generalize str lb[k] = sb at *
                go_wp2
                go_quiet (fail)
                go_wp2
                go_quiet (fail)
                go_wp2
                go_roundw
                case rel => exact ⟨k + 1, _, by omega, by omega, by go_num, rfl, HE⟩
                case measure => simp [intOf]; omega
          · have HE : Hid (ordR la lb = 0) := by show _ = _; rw [HT.out, List.drop_of_length_le (l := lb) (by omega)]; exact ordR_nil_right _
            go_wp2
            go_ret
            exact ⟨ret_int HE.out.symm, _, rfl⟩
        · have HE : Hid (ordR la lb = 0) := by show _ = _; rw [HT.out, List.drop_of_length_le (l := la) (by omega)]; rfl
          go_wp2
          go_ret
          exact ⟨ret_int HE.out.symm, _, rfl⟩
theorem ordR_tri (a b : List (List UInt8)) : ordR a b = -1 ∨ ordR a b = 0 ∨ ordR a b = 1 := by
  induction a generalizing b with
  | nil => right; left; rfl
  | cons x a ih =>
    cases b with
    | nil => right; left; rfl
    | cons y b =>
      rw [ordR]; split
      · left; rfl
      · split
        · right; right; rfl
        · exact ih b
theorem less_asymm {x y : List UInt8} (h : Op.bytesLess x y = true) : Op.bytesLess y x = false := by
  cases h2 : Op.bytesLess y x with
  | false => rfl
  | true => have := less_trans x y x h h2; rw [less_irrefl] at this; cases this
theorem ordR_neg (a b : List (List UInt8)) : ordR b a = - ordR a b := by
  induction a generalizing b with
  | nil => rw [ordR_nil_right]; rfl
  | cons x a ih =>
    cases b with
    | nil => rfl
    | cons y b =>
      simp only [ordR]
      cases h1 : Op.bytesLess x y with
      | true => simp [less_asymm h1]
      | false =>
        cases h2 : Op.bytesLess y x with
        | true => simp
        | false => simpa using ih b
theorem ordR_eq (a b : List (List UInt8)) (hl : a.length = b.length) (h : ordR a b = 0) : a = b := by
  induction a generalizing b with
  | nil => cases b with
    | nil => rfl
    | cons _ _ => simp at hl
  | cons x a ih =>
    cases b with
    | nil => simp at hl
    | cons y b =>
      rw [ordR] at h
      cases h1 : Op.bytesLess x y with
      | true => rw [h1] at h; simp at h
      | false =>
        cases h2 : Op.bytesLess y x with
        | true => rw [h1, h2] at h; simp at h
        | false =>
          rw [h1, h2] at h
          rw [less_eq h1 h2, ih b (by simpa using hl) (by simpa using h)]
theorem ordR_self (a : List (List UInt8)) : ordR a a = 0 := by
  have := ordR_neg a a; omega
theorem ordR_trans (a b c : List (List UInt8)) (h1 : ordR a b = -1) (h2 : ordR b c = -1) (hl : a.length = b.length) (hl2 : b.length = c.length) : ordR a c = -1 := by
  induction a generalizing b c with
  | nil => simp [ordR] at h1
  | cons x a ih =>
    cases b with
    | nil => simp at hl
    | cons y b =>
      cases c with
      | nil => simp at hl2
      | cons z c =>
        rw [ordR] at h1 h2 ⊢
        cases a1 : Op.bytesLess x y with
        | true =>
          cases b1 : Op.bytesLess y z with
          | true => rw [less_trans x y z a1 b1]; rfl
          | false =>
            cases b2 : Op.bytesLess z y with
            | true => rw [b1, b2] at h2; simp at h2
            | false => rw [← less_eq b1 b2, a1]; rfl
        | false =>
          cases a2 : Op.bytesLess y x with
          | true => rw [a1, a2] at h1; simp at h1
          | false =>
            have e := less_eq a1 a2
            subst e
            rw [a1] at h1
            simp only [Bool.false_eq_true, if_false] at h1
            cases b1 : Op.bytesLess x z with
            | true => rfl
            | false =>
              cases b2 : Op.bytesLess z x with
              | true => rw [b1, b2] at h2; simp at h2
              | false =>
                rw [b1, b2] at h2
                simp only [Bool.false_eq_true, if_false] at h2 ⊢
                exact ih b c h1 h2 (by simpa using hl) (by simpa using hl2)
/-- rows of one length that rise -/
def Rises (m : Nat) (L : List (List (List UInt8))) : Prop := (∀ r ∈ L, r.length = m) ∧ ∀ (i j : Nat) (a b : List (List UInt8)), i < j → L[i]? = some a → L[j]? = some b → ordR a b = -1
/-- how many stand ahead of a row -/
def ahead (L : List (List (List UInt8))) (r : List (List UInt8)) : Nat := (L.takeWhile fun a => decide (ordR a r = -1)).length
/-- a row put in its place, if it is not there -/
def ins (L : List (List (List UInt8))) (r : List (List UInt8)) : List (List (List UInt8)) := if r ∈ L then L else L.take (ahead L r) ++ r :: L.drop (ahead L r)
theorem ahead_of (L : List (List (List UInt8))) (r : List (List UInt8)) (k : Nat) (hk : k ≤ L.length) (h1 : ∀ i a, i < k → L[i]? = some a → ordR a r = -1) (h2 : ∀ a, L[k]? = some a → ordR a r ≠ -1) : ahead L r = k := by
  unfold ahead
  induction L generalizing k with
  | nil => simp at hk; subst hk; rfl
  | cons x L ih =>
    cases k with
    | zero =>
      have := h2 x (by simp)
      rw [List.takeWhile_cons]; simp [this]
    | succ k =>
      have := h1 0 x (by omega) (by simp)
      rw [List.takeWhile_cons]; simp only [this, decide_true, if_true, List.length_cons]
      rw [ih k (by simpa using hk) (fun i a hi ha => h1 (i + 1) a (by omega) (by simpa using ha)) (fun a ha => h2 a (by simpa using ha))]
end Go.Proofs.YtdfbjnachakkhaaGreatDoor

namespace Go.Proofs.YtdfbjnachakkhaaGreatDoor
open Go.ChangeShapes Go.WideShapes Go.ChangeAt Go.RowKit
set_option linter.unusedVariables false
/-- a slice that holds values -/
def Vals (w : World) (v : Value) (vs : List Value) : Prop :=
  ∃ (a : Option Addr) (cap : Nat), v = .slice a vs.length cap ∧ ((vs = [] ∧ (a = none → cap = 0)) ∨ ∃ b off, a = some ⟨b, off, none⟩ ∧ ∀ (i : Nat) (x : Value), vs[i]? = some x → w.cell? ⟨b, off + i, none⟩ = some x)
/-- a slice of slices that reads as rows -/
def Rows2 (w : World) (v : Value) (vs : List Value) (L : List (List (List UInt8))) : Prop :=
  Vals w v vs ∧ vs.length = L.length ∧ ∀ (i : Nat) (x : Value) (r : List (List UInt8)), vs[i]? = some x → L[i]? = some r → Strs w x r
theorem val_at {vs : List Value} {k : Nat} (h : k < vs.length) : vs[k]? = some vs[k] := List.getElem?_eq_getElem h
theorem row_at {L : List (List (List UInt8))} {k : Nat} (h : k < L.length) : L[k]? = some L[k] := List.getElem?_eq_getElem h
theorem lt_of_some {α : Type} {l : List α} {k : Nat} {x : α} (h : l[k]? = some x) : k < l.length := by
  rcases Nat.lt_or_ge k l.length with h1 | h1
  · exact h1
  · rw [List.getElem?_eq_none h1] at h; cases h
theorem ahead_mem (m : Nat) (L : List (List (List UInt8))) (r : List (List UInt8)) (hL : Rises m L) (hr : r.length = m) (k : Nat) (h1 : ∀ i a, i < k → L[i]? = some a → ordR a r = -1) (h2 : ∀ i a, k ≤ i → L[i]? = some a → ordR a r ≠ -1) :
    (r ∈ L) ↔ ∃ a, L[k]? = some a ∧ ordR a r = 0 := by
  constructor
  · intro hm
    obtain ⟨j, hj⟩ := List.mem_iff_getElem?.1 hm
    have h0 := ordR_self r
    have hjk : k ≤ j := by
      rcases Nat.lt_or_ge j k with h | h
      · have := h1 j r h hj; omega
      · exact h
    rcases Nat.eq_or_lt_of_le hjk with e | e
    · subst e; exact ⟨r, hj, h0⟩
    · have hk : k < L.length := by have := lt_of_some hj; omega
      have := hL.2 k j _ r e (row_at hk) hj
      exact absurd this (h2 k _ (Nat.le_refl _) (row_at hk))
  · rintro ⟨a, ha, h0⟩
    have hma := List.mem_of_getElem? ha
    have := ordR_eq a r (by rw [hL.1 a hma, hr]) h0
    rw [← this]; exact hma
set_option maxRecDepth 100000 in
set_option maxHeartbeats 2000000 in
theorem place_any (v vr : Value) (vs : List Value) (L : List (List (List UInt8))) (r : List (List UInt8)) (m : Nat) (w : World) (h : Rows2 w v vs L) (hr : Strs w vr r) (hL : Rises m L) (hm : r.length = m) (hl : L.length ≤ 1099511627776) (hml : m ≤ 140737488355328) :
    Calls Tryz.prog 21 #[v, vr] w fun e w' => e = .returned (.tuple #[.int .i64 (ahead L r : Nat), .bool (decide (r ∈ L))]) ∧ ∃ n, w' = w.drewN n := by
  obtain ⟨⟨a, cap, rfl, hv⟩, hlen, hin⟩ := h
  have HIN : Hid (∀ (i : Nat) (x : Value) (r : List (List UInt8)), vs[i]? = some x → L[i]? = some r → Strs w x r) := hin
  have HRI : Hid (Rises m L) := hL
  have HR : Hid (Strs w vr r) := hr
  have HM : Hid (r.length = m) := hm
  have HLE : Hid (vs.length = L.length) := hlen
  clear hin hL hr hm
  rcases hv with ⟨rfl, _⟩ | ⟨b, off, rfl, hc⟩
  · have hL0 : L = [] := List.eq_nil_of_length_eq_zero (by simpa using hlen.symm)
    subst hL0
    clear hlen
    go_enter Tryz.func21, Tryz.ntmps21
    go_wp2
    refine wp_loop_rounds 1 ?_
    rw [rounds_succ]
    go_wp2
    go_ret2
    exact ⟨rfl, 0, rfl⟩
  · have HC : Hid (∀ (i : Nat) (x : Value), vs[i]? = some x → w.cell? ⟨b, off + i, none⟩ = some x) := hc
    clear hc
    rw [hlen]
    clear hlen
    go_enter Tryz.func21, Tryz.ntmps21
    go_wp2
    go_loopw [6, 7] (fun lov hiv wr => ∃ lo hi n : Nat, lo ≤ hi ∧ hi ≤ L.length ∧ lov = .int .i64 lo ∧ hiv = .int .i64 hi ∧ wr = w.drewN n ∧ Hid (∀ i a, i < lo → L[i]? = some a → ordR a r = -1) ∧ Hid (∀ i a, hi ≤ i → L[i]? = some a → ordR a r ≠ -1)) (fun lov hiv _ => (intOf hiv).toNat - (intOf lov).toNat)
    case atStart => exact ⟨0, L.length, 0, by omega, by omega, rfl, rfl, rfl, fun i a hi => absurd hi (by omega), fun i a hi ha => absurd (lt_of_some ha) (by omega)⟩
    case round =>
      obtain ⟨lo, hi, n, hlo, hhi, rfl, rfl, rfl, H1, H2⟩ := hrel
      by_cases hlt : lo < hi
      · have hmid : (lo + hi) / 2 < L.length := by omega
        have hvm : (lo + hi) / 2 < vs.length := by have := HLE.out; omega
        have c1 := HC.out ((lo + hi) / 2) vs[(lo + hi) / 2] (val_at hvm)
        have hst := HIN.out ((lo + hi) / 2) _ _ (val_at hvm) (row_at hmid)
        have hml2 : L[(lo + hi) / 2].length ≤ 140737488355328 := by rw [HRI.out.1 _ (List.getElem_mem hmid)]; exact hml
        obtain ⟨x, HX⟩ : ∃ x, Hid (x = vs[(lo + hi) / 2]) := ⟨vs[(lo + hi) / 2], rfl⟩
        rw [← HX.out] at c1 hst
        obtain ⟨q, HQ⟩ : ∃ q, Hid (q = L[(lo + hi) / 2]) := ⟨L[(lo + hi) / 2], rfl⟩
        rw [← HQ.out] at hst hml2
        have HST : Hid (Strs w x q) := hst
        obtain ⟨ax, capx, rfl, _⟩ := hst
        go_wp2_with fail
        refine (order_any _ vr q r _ (HST.out.drewN _) (HR.out.drewN _) hml2 (by rw [HM.out]; exact hml)).mono ?_
        rintro e w2 ⟨rfl, hd2⟩
        obtain ⟨n2, rfl⟩ := hd2
        by_cases ho : ordR q r = -1
        · have ho' : ordR q r < 0 := by omega
          have H1' : Hid (∀ i a, i < (lo + hi) / 2 + 1 → L[i]? = some a → ordR a r = -1) := by
            intro i a hi' ha
            rcases Nat.lt_or_ge i ((lo + hi) / 2) with h | h
            · have hal := HRI.out.1 a (List.mem_of_getElem? ha)
              have hql := HRI.out.1 _ (List.getElem_mem hmid)
              have hlt2 := HRI.out.2 i _ a _ h ha (row_at hmid)
              rw [HQ.out] at ho
              exact ordR_trans a _ r hlt2 ho (by rw [hal, hql]) (by rw [hql, HM.out])
            · obtain rfl : i = (lo + hi) / 2 := by omega
              rw [row_at hmid] at ha
              cases ha
              rw [← HQ.out]; exact ho
          clear ho
          generalize ordR q r = oq at *
          go_wp2
          go_roundw
          case rel => exact ⟨(lo + hi) / 2 + 1, hi, _, by omega, by omega, by go_num, rfl, rfl, H1', H2⟩
          case measure => simp [intOf]; omega
        · have ho' : 0 ≤ ordR q r := by have := ordR_tri q r; omega
          have H2' : Hid (∀ i a, (lo + hi) / 2 ≤ i → L[i]? = some a → ordR a r ≠ -1) := by
            intro i a hi' ha hneg
            rcases Nat.eq_or_lt_of_le hi' with h | h
            · subst h
              rw [row_at hmid] at ha
              cases ha
              exact ho (by rw [HQ.out]; exact hneg)
            · have hal := HRI.out.1 a (List.mem_of_getElem? ha)
              have hql := HRI.out.1 _ (List.getElem_mem hmid)
              have hlt2 := HRI.out.2 _ i _ a h (row_at hmid) ha
              exact ho (by rw [HQ.out]; exact ordR_trans _ a r hlt2 hneg (by rw [hal, hql]) (by rw [hal, HM.out]))
          clear ho
          generalize ordR q r = oq at *
          go_wp2
          go_roundw
          case rel => exact ⟨lo, (lo + hi) / 2, _, by omega, by omega, rfl, by go_num, rfl, H1, H2'⟩
          case measure => simp [intOf]; omega
      · obtain rfl : lo = hi := by omega
        have HAH : Hid (ahead L r = lo) := ahead_of L r lo (by omega) H1.out (fun a ha => H2.out lo a (Nat.le_refl _) ha)
        have hmem := ahead_mem m L r HRI.out HM.out lo H1.out H2.out
        by_cases hin : lo < L.length
        · have hvm : lo < vs.length := by have := HLE.out; omega
          have c1 := HC.out lo vs[lo] (val_at hvm)
          have hst := HIN.out lo _ _ (val_at hvm) (row_at hin)
          have hml2 : L[lo].length ≤ 140737488355328 := by rw [HRI.out.1 _ (List.getElem_mem hin)]; exact hml
          obtain ⟨x, HX⟩ : ∃ x, Hid (x = vs[lo]) := ⟨vs[lo], rfl⟩
          rw [← HX.out] at c1 hst
          obtain ⟨q, HQ⟩ : ∃ q, Hid (q = L[lo]) := ⟨L[lo], rfl⟩
          rw [← HQ.out] at hst hml2
          have HST : Hid (Strs w x q) := hst
          have HME : Hid (decide (r ∈ L) = (ordR q r == 0)) := by
            show _ = _
            apply Bool.eq_iff_iff.2
            rw [decide_eq_true_iff, hmem, beq_iff_eq]
            constructor
            · rintro ⟨a, ha, h0⟩; rw [row_at hin] at ha; cases ha; rw [HQ.out]; exact h0
            · intro h0; exact ⟨_, row_at hin, by rw [← HQ.out]; exact h0⟩
          clear hmem
          obtain ⟨ax, capx, rfl, _⟩ := hst
          go_wp2_with fail
          refine (order_any _ vr q r _ (HST.out.drewN _) (HR.out.drewN _) hml2 (by rw [HM.out]; exact hml)).mono ?_
          rintro e w2 ⟨rfl, hd2⟩
          obtain ⟨n2, rfl⟩ := hd2
          go_wp2
          go_ret2
          refine ⟨by rw [HAH.out, HME.out]; rfl, ?_⟩
          first | exact ⟨_, rfl⟩ | exact two_draws _ _ _
        · have HME : Hid (decide (r ∈ L) = false) := by
            show _ = _
            rw [decide_eq_false_iff_not, hmem]
            rintro ⟨a, ha, _⟩
            exact absurd (lt_of_some ha) hin
          clear hmem
          go_wp2
          go_ret2
          refine ⟨by rw [HAH.out, HME.out]; rfl, ?_⟩
          first | exact ⟨_, rfl⟩ | exact two_draws _ _ _
end Go.Proofs.YtdfbjnachakkhaaGreatDoor
