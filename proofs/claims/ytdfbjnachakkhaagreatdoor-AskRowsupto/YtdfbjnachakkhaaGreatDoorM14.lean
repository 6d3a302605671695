import Derived.Test.YtdfbjnachakkhaaGreatDoorM13
import Derived.Test.YtdfbjnachakkhaaGreatDoorM11
namespace Go.Proofs.YtdfbjnachakkhaaGreatDoor
open Go.ChangeShapes Go.WideShapes Go.ChangeAt Go.RowKit Go.WideMaps Go.Maps
set_option linter.unusedVariables false
set_option maxRecDepth 100000
/-- eight numbers: noughts behind some -/
def pad8 (ks : List Nat) : List Nat := ks ++ List.replicate (8 - ks.length) 0
/-- the texts of a row's numbers -/
def decR (l : List (List UInt8)) (n : Nat) (a : List Nat) : List (List UInt8) := (a.take n).map fun k => l.getD k []
theorem pad8_len (ks : List Nat) (h : ks.length ≤ 8) : (pad8 ks).length = 8 := by simp [pad8]; omega
theorem pad8_take (ks : List Nat) : (pad8 ks).take ks.length = ks := by simp [pad8]
theorem pad8_mask (ks : List Nat) (h : ks.length ≤ 8) : maskR ks.length (pad8 ks) = pad8 ks := by
  unfold maskR
  rw [pad8_take, pad8_len ks h]; rfl
theorem pad8_row (ks : List Nat) (h : ks.length ≤ 8) (hb : ∀ k ∈ ks, k ≤ 1000000000000) : Row8N (pad8 ks) := by
  refine ⟨pad8_len ks h, fun k hk => ?_⟩
  rcases List.mem_append.1 hk with hk | hk
  · exact hb k hk
  · rw [(List.mem_replicate.1 hk).2]; omega
theorem pad8_set (ks : List Nat) (k : Nat) (h : ks.length < 8) : (pad8 ks).set ks.length k = pad8 (ks ++ [k]) := by
  unfold pad8
  obtain ⟨d, hd⟩ : ∃ d, 8 - ks.length = d + 1 := ⟨8 - ks.length - 1, by omega⟩
  have hd2 : 8 - (ks ++ [k]).length = d := by simp; omega
  rw [List.set_append_right _ _ (Nat.le_refl _), Nat.sub_self, hd, hd2, List.replicate_succ, List.set_cons_zero]
  simp
theorem numV_set (a : List Nat) (j k : Nat) : (numV a).set j (.int .i64 (k : Nat)) = numV (a.set j k) := by
  unfold numV; rw [List.map_set]
theorem addT_grow (l : List (List UInt8)) (t : List UInt8) : ∃ x, addT l t = l ++ x ∧ x.length ≤ 1 := by
  unfold addT
  split
  · exact ⟨[], by simp, by simp⟩
  · exact ⟨[t], rfl, by simp⟩
theorem addT_in (l : List (List UInt8)) (t : List UInt8) : t ∈ addT l t := by
  unfold addT
  split
  · rename_i h; simpa using h
  · simp
theorem addT_get (l : List (List UInt8)) (t : List UInt8) : (addT l t).idxOf t < (addT l t).length ∧ (addT l t).getD ((addT l t).idxOf t) [] = t := by
  have h := List.idxOf_lt_length_of_mem (addT_in l t)
  refine ⟨h, ?_⟩
  rw [List.getD_eq_getElem?_getD, List.getElem?_eq_getElem h, Option.getD_some]
  exact List.getElem_idxOf h
theorem getD_more (l x : List (List UInt8)) (k : Nat) (h : k < l.length) : (l ++ x).getD k [] = l.getD k [] := by
  rw [List.getD_eq_getElem?_getD, List.getD_eq_getElem?_getD, List.getElem?_append_left h]
theorem map_more (l x : List (List UInt8)) (ks : List Nat) (h : ∀ k ∈ ks, k < l.length) : ks.map (fun k => (l ++ x).getD k []) = ks.map (fun k => l.getD k []) :=
  List.map_congr_left (fun k hk => getD_more l x k (h k hk))
/-- numbers that texts have -/
def InT (l : List (List UInt8)) (n : Nat) (rows : List (List Nat)) : Prop := ∀ a ∈ rows, ∀ k ∈ a.take n, k < l.length
theorem decR_more (l x : List (List UInt8)) (n : Nat) (rows : List (List Nat)) (h : InT l n rows) : rows.map (decR (l ++ x) n) = rows.map (decR l n) :=
  List.map_congr_left (fun a ha => map_more l x _ (h a ha))
/-- a row that stands for new texts is new -/
theorem fresh_row {l : List (List UInt8)} {n : Nat} {rows : List (List Nat)} {L : List (List (List UInt8))} {i : Nat} {r : List (List UInt8)} {a : List Nat} (hd : rows.map (decR l n) = L.take i) (hi : L[i]? = some r) (hnd : L.Nodup) (ha : decR l n a = r) : a ∉ rows := by
  intro hm
  have h1 : r ∈ L.take i := by rw [← hd, ← ha]; exact List.mem_map_of_mem hm
  have hlt : i < L.length := (List.getElem?_eq_some_iff.1 hi).1
  have h2 : L.take (i + 1) = L.take i ++ [r] := by
    rw [List.take_succ_eq_append_getElem hlt, (List.getElem?_eq_some_iff.1 hi).2]
  have h3 : (L.take (i + 1)).Nodup := hnd.sublist (List.take_sublist _ _)
  rw [h2, List.nodup_append] at h3
  exact h3.2.2 r h1 r (by simp) rfl
/-- what giving facts may change -/
def GvS (base S nm rm : Nat) (w : World) (i : Nat) : Prop := i = S ∨ i = nm ∨ i = rm ∨ (base ≤ i ∧ ∃ cur e fz, w.heap[i]? = some (.cells cur e fz) ∧ (e = 193 ∨ e = 3 ∨ e = 9))
theorem GvS.trans {base S nm rm : Nat} {w b c : World} {Z : Nat → Prop} (h : FrS (GvS base S nm rm w) w b) (k : FrS Z b c) (hz : ∀ i, i < w.heap.size → Z i → GvS base S nm rm b i) : FrS (GvS base S nm rm w) w c := by
  refine FrS.trans h k (fun i hi e => ?_)
  rcases hz i hi e with h1 | h1 | h1 | ⟨h1, cur, t, fz, h2, h3⟩
  · exact .inl h1
  · exact .inr (.inl h1)
  · exact .inr (.inr (.inl h1))
  · by_cases hg : GvS base S nm rm w i
    · exact hg
    · exact .inr (.inr (.inr ⟨h1, cur, t, fz, by rw [← h.block i hi hg]; exact h2, h3⟩))
theorem TxS.trans {base S nm : Nat} {w b c : World} {Z : Nat → Prop} (h : FrS (TxS base S nm w) w b) (k : FrS Z b c) (hz : ∀ i, i < w.heap.size → Z i → TxS base S nm b i) : FrS (TxS base S nm w) w c := by
  refine FrS.trans h k (fun i hi e => ?_)
  rcases hz i hi e with h1 | h1 | ⟨h1, cur, fz, h2⟩
  · exact .inl h1
  · exact .inr (.inl h1)
  · by_cases hg : TxS base S nm w i
    · exact hg
    · exact .inr (.inr ⟨h1, cur, fz, by rw [← h.block i hi hg]; exact h2⟩)
/-- a relation's blocks are none of the texts' -/
theorem RelX.keptT {base R ix im n S nm rm : Nat} {rows : List (List Nat)} {old now : Nat} {l : List (List UInt8)} {w w' : World} {vr vu vl : Value} {D : DataW Unit} (h : RelX base R ix im n rows old now w vr vu) (ht : TX base S nm rm l w vl D) (hf : FrS (TxS base S nm w) w w') (hix : ix ≠ nm) (him : im ≠ nm) : RelX base R ix im n rows old now w' vr vu := by
  have hS : ∀ g cur e fz, w.heap[g]? = some (.cells cur e fz) → (e = 193 ∨ e = 3 ∨ e = 200) → ¬ TxS base S nm w g := by
    rintro g cur e fz hg he (h1 | h1 | ⟨_, cur2, fz2, h1⟩)
    · rw [h1, ht.blk] at hg; injection hg with hg; injection hg with _ h3
      rcases he with he | he | he <;> (rw [he] at h3; cases h3)
    · obtain ⟨es, ck, hq, _⟩ := ht.num
      rw [h1, hq] at hg; cases hg
    · rw [hg] at h1; injection h1 with h1; injection h1 with _ h3
      rcases he with he | he | he <;> (rw [he] at h3; cases h3)
  have hM : ∀ g es ck, w.heap[g]? = some (.map es ck) → g ≠ nm → ¬ TxS base S nm w g := by
    rintro g es ck hg hn (h1 | h1 | ⟨_, cur2, fz2, h1⟩)
    · rw [h1, ht.blk] at hg; cases hg
    · exact hn h1
    · rw [hg] at h1; cases h1
  refine h.kept hf (hS R _ _ _ h.blk (.inr (.inr rfl))) ?_ ?_ (fun g cur e fz _ hg he => hS g cur e fz hg (he.elim .inl (fun e => .inr (.inl e))))
  · rcases h with ⟨_, _, _, _, _, h6, _⟩ | ⟨DM, vf, h⟩
    · obtain ⟨es, ck, hq, _⟩ := h6; exact hM ix es ck hq hix
    · obtain ⟨es, ck, hq, _⟩ := h.ixm; exact hM ix es ck hq hix
  · rcases h with ⟨h1, _, _, _, h5, _⟩ | ⟨DM, vf, h⟩
    · rw [h1]; exact hS R _ _ _ h5 (.inr (.inr rfl))
    · obtain ⟨es, ck, hq, _⟩ := h.idx.own; exact hM im es ck hq him
/-- the texts' blocks are none of a relation's -/
theorem TX.keptR {base R ix im n S nm rm : Nat} {rows : List (List Nat)} {old now : Nat} {l : List (List UInt8)} {w w' : World} {vr vu vl : Value} {D : DataW Unit} (ht : TX base S nm rm l w vl D) (h : RelX base R ix im n rows old now w vr vu) (hf : FrS (AddS base R ix im w) w w') (hix : ix ≠ nm) (him : im ≠ nm) : TX base S nm rm l w' vl D := by
  have hixm : ∃ es ck, w.heap[ix]? = some (.map es ck) := by
    rcases h with ⟨_, _, _, _, _, h6, _⟩ | ⟨DM, vf, h⟩
    · obtain ⟨es, ck, hq, _⟩ := h6; exact ⟨es, ck, hq⟩
    · obtain ⟨es, ck, hq, _⟩ := h.ixm; exact ⟨es, ck, hq⟩
  have himm : im = R ∨ ∃ es ck, w.heap[im]? = some (.map es ck) := by
    rcases h with ⟨h1, _⟩ | ⟨DM, vf, h⟩
    · exact .inl h1
    · obtain ⟨es, ck, hq, _⟩ := h.idx.own; exact .inr ⟨es, ck, hq⟩
  have hcell : ∀ g cur e fz, w.heap[g]? = some (.cells cur e fz) → e ≠ 193 → e ≠ 3 → e ≠ 200 → ¬ AddS base R ix im w g := by
    intro g cur e fz hg h1 h2 h3 ha
    have hnR : g ≠ R := by
      rintro rfl
      rw [h.blk] at hg; injection hg with hg; injection hg with _ h4; exact h3 h4.symm
    rcases ha with e1 | e1 | e1 | ⟨_, cur2, e2, fz2, h5, h6⟩
    · exact hnR e1
    · obtain ⟨es, ck, hq⟩ := hixm
      rw [e1, hq] at hg; cases hg
    · rcases himm with h7 | ⟨es, ck, hq⟩
      · exact hnR (e1.trans h7)
      · rw [e1, hq] at hg; cases hg
    · rw [hg] at h5; injection h5 with h5; injection h5 with _ h7
      rcases h6 with h6 | h6
      · exact h1 (h7.trans h6)
      · exact h2 (h7.trans h6)
  refine ht.kept hf (hcell S _ _ _ ht.blk (by decide) (by decide) (by decide)) ?_ (fun g cur fz _ hg => hcell g cur _ fz hg (by decide) (by decide) (by decide))
  obtain ⟨es, ck, hq, _⟩ := ht.num
  rintro (e1 | e1 | e1 | ⟨_, cur2, e2, fz2, h5, h6⟩)
  · rw [e1, h.blk] at hq; cases hq
  · exact hix e1.symm
  · exact him e1.symm
  · rw [hq] at h5; cases h5
set_option maxHeartbeats 1000000 in
theorem new_any (w : World) :
    Calls Tryz.prog 55 #[] w fun e w' => ∃ S nm rm, e = .returned (.pointer (some ⟨S, 0, none⟩)) ∧ TX w.heap.size S nm rm [] w' (.slice none 0 0) (.map []) ∧ w'.ownsMap Tryz.prog 9 heldA rm 0 (.map []) ∧ nm ≠ rm ∧ w.heap.size ≤ rm ∧ w.grownBy w' none := by
  have hmm := @run_makeMap Tryz.prog
  go_enter Tryz.func55, Tryz.ntmps55
  go_wp2
  go_ret
  have h0 := World.ownsMap_made (H := Unit) w Tryz.prog 9 (plainElem Tryz.prog 3)
  have h1 := World.ownsMap_made (H := Value) (w.alloc (.map #[] 0)) Tryz.prog 9 heldA
  have e1 : (w.alloc (.map #[] 0)).heap.size = w.heap.size + 1 := by simp
  rw [e1] at h1
  refine ⟨w.heap.size + 1 + 1, w.heap.size, w.heap.size + 1, rfl, ⟨?_, World.ownsRow_nil _ _ _ _, (h0.kept (fr_alloc _ _ none) (by simp)).kept (fr_alloc _ _ none) (by simp), NumT.nil, fun t h => by simp at h, by omega, Nat.le_refl _⟩, h1.kept (fr_alloc _ _ none) (by simp), by omega, by omega, fr_both (fr_both (fr_alloc _ _ _) (fr_alloc _ _ _)) (fr_alloc _ _ _)⟩
  have h2 := heap_alloc_new ((w.alloc (.map #[] 0)).alloc (.map #[] 0)) (.cells #[.slice none 0 0, .map (some w.heap.size), .map (some (w.heap.size + 1))] 103)
  have e2 : ((w.alloc (.map #[] 0)).alloc (.map #[] 0)).heap.size = w.heap.size + 1 + 1 := by simp
  rw [e2] at h2
  exact h2
end Go.Proofs.YtdfbjnachakkhaaGreatDoor

namespace Go.Proofs.YtdfbjnachakkhaaGreatDoor
open Go.ChangeShapes Go.WideShapes Go.ChangeAt Go.RowKit Go.WideMaps Go.Maps
set_option linter.unusedVariables false
set_option maxRecDepth 100000
/-- a store with one relation's facts -/
structure Given (base S nm rm R ix im n : Nat) (name : List UInt8) (l : List (List UInt8)) (rows : List (List Nat)) (L : List (List (List UInt8))) (w : World) (vl : Value) (D : DataW Unit) (vr vu : Value) : Prop where
  tx : TX base S nm rm l w vl D
  rel : RelX base R ix im n rows 0 0 w vr vu
  map : w.ownsMap Tryz.prog 9 heldA rm 1 (Done name R)
  dec : rows.map (decR l n) = L
  inT : InT l n rows
  len : l.length ≤ 8 * L.length
/-- in the midst of one row -/
structure InRow (base S nm rm rb : Nat) (l0 : List (List UInt8)) (r : List (List UInt8)) (wi : World) (c : Nat) (ks : List Nat) (l : List (List UInt8)) (w : World) (vl : Value) (D : DataW Unit) : Prop where
  tx : TX base S nm rm l w vl D
  klen : ks.length = c
  dec : (ks.map fun k => l.getD k []) = r.take c
  inT : ∀ k ∈ ks, k < l.length
  ext : ∃ x, l = l0 ++ x ∧ x.length ≤ c
  box : w.heap[rb]? = some (.cells (numV (pad8 ks)).toArray 193 (0, 0))
  fr : FrS (TxS base S nm wi) wi w
theorem not_tx {base S nm rm rb : Nat} {l : List (List UInt8)} {w : World} {vl : Value} {D : DataW Unit} (ht : TX base S nm rm l w vl D) {cur : Array Value} {e : TypeId} {fz : Nat × Nat} (hb : w.heap[rb]? = some (.cells cur e fz)) (h1 : e ≠ 9) (h2 : e ≠ 103) : ¬ TxS base S nm w rb := by
  rintro (h | h | ⟨_, cur2, fz2, h⟩)
  · rw [h, ht.blk] at hb; injection hb with hb; injection hb with _ h3; exact h2 h3.symm
  · obtain ⟨es, ck, hq, _⟩ := ht.num
    rw [h, hq] at hb; cases hb
  · rw [hb] at h; injection h with h; injection h with _ h3; exact h1 h3
theorem InRow.step {base S nm rm rb : Nat} {l0 r : List (List UInt8)} {wi : World} {c : Nat} {ks : List Nat} {l : List (List UInt8)} {w wd : World} {vl vl2 : Value} {D D2 : DataW Unit} {t : List UInt8} (h : InRow base S nm rm rb l0 r wi c ks l w vl D) (hc : r[c]? = some t) (hc8 : c < 8) (ht : TX base S nm rm (addT l t) wd vl2 D2) (hf : FrS (TxS base S nm w) w wd) (hrb : wi.heap.size ≤ rb) :
    InRow base S nm rm rb l0 r wi (c + 1) (ks ++ [(addT l t).idxOf t]) (addT l t) (wd.setCell ⟨rb, c, none⟩ (.int .i64 ((addT l t).idxOf t : Nat))) vl2 D2 := by
  obtain ⟨y, hy, hyl⟩ := addT_grow l t
  obtain ⟨hk1, hk2⟩ := addT_get l t
  have hbw : wd.heap[rb]? = some (.cells (numV (pad8 ks)).toArray 193 (0, 0)) := by
    rw [hf.block rb (Array.getElem?_eq_some_iff.1 h.box).1 (not_tx h.tx h.box (by decide) (by decide))]; exact h.box
  have hct : c < r.length := (List.getElem?_eq_some_iff.1 hc).1
  have hset : FrS (fun i => i = rb) wd (wd.setCell ⟨rb, c, none⟩ (.int .i64 ((addT l t).idxOf t : Nat))) := FrS.of (fr_set wd rb c _) (fun g e => .inl (Option.some.inj e).symm)
  have hne : ∀ cur e fz, ∀ g, wd.heap[g]? = some (.cells cur e fz) → e ≠ 193 → ¬ g = rb := by
    rintro cur e fz g hg he rfl
    rw [hbw] at hg; injection hg with hg; injection hg with _ h3; exact he h3.symm
  refine ⟨?_, by rw [List.length_append, h.klen]; rfl, ?_, ?_, ?_, ?_, ?_⟩
  · refine ht.kept hset (hne _ _ _ S ht.blk (by decide)) ?_ (fun g cur fz _ hg => hne _ _ _ g hg (by decide))
    obtain ⟨es, ck, hq, _⟩ := ht.num
    intro e
    rw [show nm = rb from e, hbw] at hq; cases hq
  · rw [List.map_append, List.take_succ_eq_append_getElem hct, (List.getElem?_eq_some_iff.1 hc).2]
    have e1 : (ks.map fun k => (addT l t).getD k []) = r.take c := by rw [hy, map_more l y ks h.inT]; exact h.dec
    rw [e1, List.map_singleton, hk2]
  · intro k hk
    rcases List.mem_append.1 hk with hk | hk
    · have := h.inT k hk; rw [hy, List.length_append]; omega
    · rw [List.mem_singleton.1 hk]; exact hk1
  · obtain ⟨x, hx, hxl⟩ := h.ext
    exact ⟨x ++ y, by rw [hy, hx, List.append_assoc], by rw [List.length_append]; omega⟩
  · have h1 := blk_set hbw c (.int .i64 ((addT l t).idxOf t : Nat))
    rw [h1]
    congr 2
    rw [← pad8_set ks _ (by rw [h.klen]; exact hc8), ← numV_set, h.klen]
    simp
  · exact FrS.trans (TxS.trans h.fr hf (fun i _ e => e)) hset (fun i hi e => by have : i = rb := e; omega)
theorem rowsWide {L : List (List (List UInt8))} {n i : Nat} {r : List (List UInt8)} (h : ∀ r ∈ L, r.length = n ∧ ∀ t ∈ r, t.length ≤ 1000) (hi : L[i]? = some r) : r.length = n ∧ ∀ t ∈ r, t.length ≤ 1000 := h r (List.mem_of_getElem? hi)
set_option maxHeartbeats 1000000 in
theorem give_any (base S nm rm b0 n : Nat) (name : List UInt8) (v : Value) (vs : List Value) (L : List (List (List UInt8))) (w : World) (vl : Value) (D : DataW Unit) (h : TX base S nm rm [] w vl D) (hm : w.ownsMap Tryz.prog 9 heldA rm 0 (.map [])) (hnr : nm ≠ rm) (hrm : base ≤ rm) (hD : Deep b0 w v vs L) (hvb : ∀ g, v.ownBlock = some g → g < base) (hxb : ∀ x ∈ vs, ∀ g, x.ownBlock = some g → g < base) (hrow : ∀ r ∈ L, r.length = n ∧ ∀ t ∈ r, t.length ≤ 1000) (hn : n ≤ 8) (hnd : L.Nodup) (hL : L.length ≤ 2000) (hname : name.length ≤ 1000) :
    Calls Tryz.prog 62 #[.pointer (some ⟨S, 0, none⟩), .agg #[.string (str name), .int .i64 (n : Nat), v]] w fun e w' => e = .returned (.tuple #[]) ∧ (∃ R ix im l rows vl' D' vr vu, Given base S nm rm R ix im n name l rows L w' vl' D' vr vu ∧ w.heap.size ≤ R ∧ w.heap.size ≤ ix ∧ w.heap.size ≤ im) ∧ FrS (GvS base S nm rm w) w w' := by
  have HI := hide h
  have HM := hide hm
  have HD := hide hD
  have HVB := hide hvb
  have HXB := hide hxb
  have HRW := hide hrow
  have HND := hide hnd
  obtain ⟨va, vc, hve⟩ := own_form hD.1
  have hvl : vs.length = L.length := hD.2.1
  obtain ⟨m, HML⟩ : ∃ m, Hid (m = L.length) := ⟨_, rfl⟩
  rw [hvl, ← HML.out] at hve
  rw [← HML.out] at hL
  rw [hve]
  obtain ⟨s, HS⟩ : ∃ s, Hid (s = str name) := ⟨_, rfl⟩
  rw [← HS.out]
  obtain ⟨wA, HWA⟩ : ∃ wA, Hid (wA = w.alloc (.cells #[.string s, .int .i64 (n : Nat), .slice va m vc] 32)) := ⟨_, rfl⟩
  have hwA := HWA.out.symm
  have HGA : Hid (w.grownBy wA none) := by rw [HWA.out]; exact fr_alloc _ _ _
  have hbl : wA.heap[w.heap.size]? = some (.cells #[.string s, .int .i64 (n : Nat), .slice va m vc] 32 (0, 0)) := by rw [HWA.out]; exact heap_alloc_new _ _
  have q0 : wA.cell? ⟨w.heap.size, 0, none⟩ = some (.string s) := cell_of hbl 0 _ rfl
  have q1 : wA.cell? ⟨w.heap.size, 1, none⟩ = some (.int .i64 (n : Nat)) := cell_of hbl 1 _ rfl
  have q2 : wA.cell? ⟨w.heap.size, 2, none⟩ = some (.slice va m vc) := cell_of hbl 2 _ rfl
  have hsA : wA.heap.size = w.heap.size + 1 := by rw [HWA.out]; simp
  clear h hm hD hvb hxb hrow hnd hvl
  go_enter Tryz.func62, Tryz.ntmps62
  go_wp2_with fail
  have HRN := hide (relation_new base S nm rm n [] name wA vl D (HI.out.grown HGA.out) (HM.out.kept HGA.out (by simp)) hname)
  rw [← HS.out] at HRN
  refine HRN.out.mono ?_
  rintro _ w1 ⟨R, ix, rfl, hb1, hx1, hm1, hR1, hX1, hg1⟩
  have hSl : S < w.heap.size := (Array.getElem?_eq_some_iff.1 HI.out.blk).1
  have hnl : nm < w.heap.size := HI.out.num.lt
  have hrl : rm < w.heap.size := HM.out.lt
  have hrS : ¬ S = rm := by
    rintro rfl
    obtain ⟨es, ck, hq, _⟩ := HM.out
    rw [HI.out.blk] at hq; cases hq
  have hF1 : FrS (fun i => i = rm) wA w1 := FrS.of hg1 (fun g e => .inl (Option.some.inj e).symm)
  have HT1 : Hid (TX base S nm rm [] w1 vl D) := (HI.out.grown HGA.out).kept hF1 hrS hnr (fun g cur fz _ hg e => by
    obtain ⟨es, ck, hq, _⟩ := HM.out.kept HGA.out (by simp)
    rw [show g = rm from e, hq] at hg; cases hg)
  have hbw : base ≤ w.heap.size := by have := HI.out.lowS; omega
  have HX1 : Hid (RelX base R ix R n [] 0 0 w1 (.slice none 0 0) (.slice none 0 0)) := .inl ⟨rfl, rfl, rfl, rfl, hb1, hx1, by omega, by omega⟩
  have HM1 := hide hm1
  have HF1 : Hid (FrS (GvS base S nm rm w) w w1) := FrS.trans (FrS.none HGA.out) hF1 (fun i _ e => .inr (.inr (.inl e)))
  have p2 := hF1.cell q2 (by show ¬ w.heap.size = rm; omega)
  have hs1 : wA.heap.size ≤ w1.heap.size := hF1.size
  clear hb1 hx1 hm1 hg1 hF1 q0 q1 q2 hbl hwA HRN
  have hGlow : ∀ (W : World) (i : Nat), GvS base S nm rm W i → base ≤ i := by
    rintro W i (e | e | e | e)
    · rw [e]; exact HI.out.lowS
    · rw [e]; exact HI.out.lowN
    · rw [e]; exact hrm
    · exact e.1
  have HGL := hide hGlow
  have HTL : Hid (∀ (W : World) (i : Nat), TxS base S nm W i → base ≤ i) := by
    rintro W i (e | e | e)
    · rw [e]; exact HI.out.lowS
    · rw [e]; exact HI.out.lowN
    · exact e.1
  clear hGlow
  go_wp2_with fail
  go_loopw [19] (fun iv wr => ∃ (i im : Nat) (l : List (List UInt8)) (rows : List (List Nat)) (vl' : Value) (D' : DataW Unit) (vr vu : Value), i ≤ m ∧ iv = .int .i64 i ∧ Hid (Given base S nm rm R ix im n name l rows (L.take i) wr vl' D' vr vu) ∧ Hid (w.heap.size ≤ im) ∧ Hid (FrS (GvS base S nm rm w) w wr) ∧ Hid (wA.heap.size ≤ wr.heap.size)) (fun iv _ => m - (intOf iv).toNat)
  case atStart => exact ⟨0, R, [], [], vl, D, .slice none 0 0, .slice none 0 0, Nat.zero_le _, rfl, ⟨HT1.out, HX1.out, HM1.out, rfl, fun a ha => by simp at ha, by simp⟩, (by show w.heap.size ≤ R; omega), HF1, hs1⟩
  case round =>
    clear HT1 HX1 HM1 HF1 p2
    obtain ⟨i, im, l, rows, vl', D', vr, vu, hi, rfl, HG, HIM, HF, HSZ⟩ := hrel
    obtain ⟨wi, rfl⟩ : ∃ wi, wi = wr := ⟨_, rfl⟩
    by_cases hlt : i < m
    · have hlt' : i < L.length := by rw [← HML.out]; exact hlt
      have hvsl : i < vs.length := by rw [HD.out.2.1]; exact hlt'
      obtain ⟨r, HR⟩ : ∃ r, Hid (L[i]? = some r) := ⟨_, List.getElem?_eq_getElem hlt'⟩
      obtain ⟨x, HX⟩ : ∃ x, Hid (vs[i]? = some x) := ⟨_, List.getElem?_eq_getElem hvsl⟩
      have HXR := hide (HD.out.2.2 i x r HX.out HR.out)
      obtain ⟨hrn, hrt⟩ := rowsWide HRW.out HR.out
      have HRT := hide hrt
      have HRN := hide hrn
      obtain ⟨xa, xc, hxe⟩ := own_form HXR.out
      rw [hrn] at hxe
      have HBL : Hid (Below base w wi) := HF.out.below hbw (HGL.out w)
      obtain ⟨gv, hgv⟩ : ∃ gv, va = some ⟨gv, 0, none⟩ := by
        rcases HD.out.1.2 with ⟨e, e0⟩ | ⟨g, cap, cur, e, _⟩
        · omega
        · rw [hve] at e; injection e with e1 e2 e3; exact ⟨g, e1⟩
      have hob : v.ownBlock = some gv := by rw [hve, hgv]; rfl
      have c0 := own_cell HD.out.1 hob i x HX.out
      have c1 := (HBL.out.cell (p := ⟨gv, i, none⟩) (HVB.out gv hob)).trans c0
      rw [hxe] at c1
      rw [hgv]
      clear c0 hob hrt
      obtain ⟨wB, HWB⟩ : ∃ wB, Hid (wB = wi.alloc (.cells #[.int .i64 0, .int .i64 0, .int .i64 0, .int .i64 0, .int .i64 0, .int .i64 0, .int .i64 0, .int .i64 0] 193)) := ⟨_, rfl⟩
      have hwB := HWB.out.symm
      have HGB : Hid (wi.grownBy wB none) := by rw [HWB.out]; exact fr_alloc _ _ _
      have HIR : Hid (InRow base S nm rm wi.heap.size l r wi 0 [] l wB vl' D') := by
        refine ⟨HG.out.tx.grown HGB.out, rfl, rfl, fun k hk => by simp at hk, ⟨[], by simp, by simp⟩, ?_, FrS.none HGB.out⟩
        rw [HWB.out]; exact heap_alloc_new _ _
      go_wp2_with fail
      go_loopw [25] (fun cv wc => ∃ (c : Nat) (ks : List Nat) (l2 : List (List UInt8)) (vl2 : Value) (D2 : DataW Unit), c ≤ n ∧ cv = .int .i64 c ∧ Hid (InRow base S nm rm wi.heap.size l r wi c ks l2 wc vl2 D2)) (fun cv _ => n - (intOf cv).toNat)
      case atStart => exact ⟨0, [], l, vl', D', Nat.zero_le _, rfl, HIR⟩
      case round =>
        clear HIR
        obtain ⟨c, ks, l2, vl2, D2, hc, rfl, HIC⟩ := hrel
        obtain ⟨wc, rfl⟩ : ∃ wc, wc = wr := ⟨_, rfl⟩
        have hll : l2.length ≤ 20000 := by
          obtain ⟨y, hy, hyl⟩ := HIC.out.ext
          have h1 := HG.out.len
          rw [List.length_take] at h1
          rw [hy, List.length_append]; omega
        by_cases hcn : c < n
        · have hcr : c < r.length := by rw [HRN.out]; exact hcn
          obtain ⟨t, HT⟩ : ∃ t, Hid (r[c]? = some t) := ⟨_, List.getElem?_eq_getElem hcr⟩
          have htl : t.length ≤ 1000 := HRT.out t (List.mem_of_getElem? HT.out)
          obtain ⟨gx, hgx⟩ : ∃ gx, xa = some ⟨gx, 0, none⟩ := by
            rcases HXR.out.2 with ⟨e, e0⟩ | ⟨g, cap, cur, e, _⟩
            · omega
            · rw [hxe] at e; injection e with e1 e2 e3; exact ⟨g, e1⟩
          have hob : x.ownBlock = some gx := by rw [hxe, hgx]; rfl
          have hgxb : gx < base := HXB.out x (List.mem_of_getElem? HX.out) gx hob
          have hblc : Below base wi wc := HIC.out.fr.below (by have := HF.out.size; omega) (HTL.out wi)
          have d0 := own_cell HXR.out hob c _ (ts_at HT.out)
          have d1 := (hblc.cell (p := ⟨gx, c, none⟩) hgxb).trans ((HBL.out.cell (p := ⟨gx, c, none⟩) hgxb).trans d0)
          have HNU := hide (number_any base S nm rm l2 t wc vl2 D2 HIC.out.tx htl (by omega))
          obtain ⟨st, HST⟩ : ∃ st, Hid (st = str t) := ⟨_, rfl⟩
          rw [← HST.out] at d1 HNU
          rw [hgx]
          clear d0 hblc hob
          go_wp2_with fail
          refine HNU.out.mono ?_
          rintro _ wd ⟨rfl, ⟨vl3, D3, htx3⟩, hf3⟩
          have hbx := (hf3.block wi.heap.size (Array.getElem?_eq_some_iff.1 HIC.out.box).1 (not_tx HIC.out.tx HIC.out.box (by decide) (by decide))).trans HIC.out.box
          have hpl : (pad8 ks).length = 8 := pad8_len ks (by rw [HIC.out.klen]; omega)
          obtain ⟨u0, hu0⟩ : ∃ u, (numV (pad8 ks)).toArray[c]? = some u := ⟨_, Array.getElem?_eq_getElem (by simp [numV, hpl]; omega)⟩
          have k0 := cell_of hbx c u0 hu0
          have k1 := thaw_of hbx c
          have HST3 := hide (HIC.out.step HT.out (by omega) htx3 hf3 (Nat.le_refl _))
          have hkb : (addT l2 t).idxOf t < (addT l2 t).length := (addT_get l2 t).1
          obtain ⟨y, hy, hyl⟩ := addT_grow l2 t
          have hkb2 : (addT l2 t).idxOf t ≤ 30000 := by rw [hy, List.length_append] at hkb; rw [hy]; omega
          generalize (addT l2 t).idxOf t = kk at *
          clear htx3 hf3 hbx hu0 hkb hy hyl hpl
          go_wp2
          go_roundw
          case rel => exact ⟨c + 1, _, _, vl3, D3, by omega, by go_num, HST3⟩
          case measure => simp [intOf]; omega
        · have hcn' : c = n := by omega
          subst hcn'
          have HRX : Hid (RelX base R ix im c rows 0 0 wc vr vu) := HG.out.rel.keptT HG.out.tx HIC.out.fr (by omega) (by have := HIM.out; omega)
          obtain ⟨a, HA⟩ : ∃ a, Hid (a = pad8 ks) := ⟨_, rfl⟩
          have hbox := HIC.out.box
          rw [← HA.out] at hbox
          have hkb : ∀ k ∈ ks, k ≤ 1000000000000 := fun k hk => by have := HIC.out.inT k hk; omega
          have har : Row8N a := by rw [HA.out]; exact pad8_row ks (by rw [HIC.out.klen]; exact hn) hkb
          have hma : maskR c a = a := by
            have := pad8_mask ks (by rw [HIC.out.klen]; exact hn)
            rw [HIC.out.klen] at this
            rw [HA.out]; exact this
          have hdr : decR l2 c a = r := by
            have h1 := pad8_take ks
            rw [HIC.out.klen] at h1
            unfold decR
            rw [HA.out, h1, HIC.out.dec, List.take_of_length_le (by rw [HRN.out]; exact Nat.le_refl _)]
          have hdec : rows.map (decR l2 c) = L.take i := by
            obtain ⟨y, hy, _⟩ := HIC.out.ext
            rw [hy, decR_more l y c rows HG.out.inT]; exact HG.out.dec
          have hnew : a ∉ rows := fresh_row hdec HR.out HND.out hdr
          have hrows : rows.length ≤ 1000000 := by
            have := congrArg List.length HG.out.dec
            rw [List.length_map, List.length_take] at this
            omega
          have HAD := hide (addRow_any base R ix im c rows 0 0 a wc vr vu HRX.out hn har hma hnew hrows)
          obtain ⟨a0, a1, a2, a3, a4, a5, a6, a7, HAE⟩ : ∃ a0 a1 a2 a3 a4 a5 a6 a7, Hid (a = [a0, a1, a2, a3, a4, a5, a6, a7]) := by
            exact row8 a har.1
          have hrv : rowV a = .agg #[.int .i64 (a0 : Nat), .int .i64 (a1 : Nat), .int .i64 (a2 : Nat), .int .i64 (a3 : Nat), .int .i64 (a4 : Nat), .int .i64 (a5 : Nat), .int .i64 (a6 : Nat), .int .i64 (a7 : Nat)] := by rw [HAE.out]; rfl
          rw [hrv] at HAD
          rw [HAE.out] at hbox
          have g0 : wc.cell? ⟨wi.heap.size, 0, none⟩ = some (.int .i64 (a0 : Nat)) := cell_of hbox 0 _ rfl
          have g1 : wc.cell? ⟨wi.heap.size, 1, none⟩ = some (.int .i64 (a1 : Nat)) := cell_of hbox 1 _ rfl
          have g2 : wc.cell? ⟨wi.heap.size, 2, none⟩ = some (.int .i64 (a2 : Nat)) := cell_of hbox 2 _ rfl
          have g3 : wc.cell? ⟨wi.heap.size, 3, none⟩ = some (.int .i64 (a3 : Nat)) := cell_of hbox 3 _ rfl
          have g4 : wc.cell? ⟨wi.heap.size, 4, none⟩ = some (.int .i64 (a4 : Nat)) := cell_of hbox 4 _ rfl
          have g5 : wc.cell? ⟨wi.heap.size, 5, none⟩ = some (.int .i64 (a5 : Nat)) := cell_of hbox 5 _ rfl
          have g6 : wc.cell? ⟨wi.heap.size, 6, none⟩ = some (.int .i64 (a6 : Nat)) := cell_of hbox 6 _ rfl
          have g7 : wc.cell? ⟨wi.heap.size, 7, none⟩ = some (.int .i64 (a7 : Nat)) := cell_of hbox 7 _ rfl
          have HDR := hide hdr
          have HDE := hide hdec
          have HAR := hide har
          clear hrv hbox hkb har hma hdr hdec hnew hrows
          go_wp2_with fail
          refine HAD.out.mono ?_
          rintro _ we ⟨rfl, ⟨im2, vr2, vu2, hrx2, him2⟩, hf2⟩
          have hwcs : wi.heap.size ≤ wc.heap.size := HIC.out.fr.size
          have hwsz : w.heap.size ≤ wi.heap.size := HF.out.size
          have himw := HIM.out
          have HG2 : Hid (Given base S nm rm R ix im2 c name l2 (rows ++ [a]) (L.take (i + 1)) we vl2 D2 vr2 vu2) := by
            refine ⟨HIC.out.tx.keptR HRX.out hf2 (by omega) (by omega), hrx2, ?_, ?_, ?_, ?_⟩
            · have hmc : wc.ownsMap Tryz.prog 9 heldA rm 1 (Done name R) := HIC.out.fr.map HG.out.map (by
                obtain ⟨es, ck, hq, _⟩ := HG.out.map
                rintro (e | e | ⟨_, cur, fz, e⟩)
                · exact hrS e.symm
                · exact hnr e.symm
                · rw [hq] at e; cases e)
              refine hf2.map hmc ?_
              obtain ⟨es, ck, hq, _⟩ := hmc
              rintro (e | e | e | ⟨_, cur, e2, fz, e, _⟩)
              · omega
              · omega
              · omega
              · rw [hq] at e; cases e
            · rw [List.map_append, HDE.out, List.map_singleton, HDR.out, List.take_succ_eq_append_getElem hlt', (List.getElem?_eq_some_iff.1 HR.out).2]
            · intro b hb
              rcases List.mem_append.1 hb with hb | hb
              · obtain ⟨y, hy, _⟩ := HIC.out.ext
                intro k hk
                have := HG.out.inT b hb k hk
                rw [hy, List.length_append]; omega
              · rw [List.mem_singleton.1 hb, HA.out]
                have h1 := pad8_take ks
                rw [HIC.out.klen] at h1
                rw [h1]; exact HIC.out.inT
            · obtain ⟨y, hy, hyl⟩ := HIC.out.ext
              have h1 := HG.out.len
              rw [List.length_take] at h1 ⊢
              rw [hy, List.length_append]; omega
          have HF2 : Hid (FrS (GvS base S nm rm w) w we) := by
            refine GvS.trans (GvS.trans HF.out HIC.out.fr (fun j _ e => ?_)) hf2 (fun j hj e => ?_)
            · rcases e with e | e | ⟨e1, cur, fz, e2⟩
              · exact .inl e
              · exact .inr (.inl e)
              · exact .inr (.inr (.inr ⟨e1, cur, _, fz, e2, .inr (.inr rfl)⟩))
            · rcases e with e | e | e | ⟨e1, cur, e2, fz, e3, e4⟩
              · omega
              · omega
              · omega
              · exact .inr (.inr (.inr ⟨e1, cur, e2, fz, e3, e4.elim .inl (fun e => .inr (.inl e))⟩))
          have HIM2 : Hid (w.heap.size ≤ im2) := by
            show w.heap.size ≤ im2
            rcases him2 with e | e <;> omega
          have HSZ2 : Hid (wA.heap.size ≤ we.heap.size) := by
            show wA.heap.size ≤ we.heap.size
            have := hf2.size; have := HSZ.out; omega
          clear hrx2 him2 hf2 g0 g1 g2 g3 g4 g5 g6 g7
          go_wp2
          go_roundw
          case rel => exact ⟨i + 1, im2, l2, rows ++ [a], vl2, D2, vr2, vu2, by omega, by go_num, HG2, HIM2, HF2, HSZ2⟩
          case measure => simp [intOf]; omega
    · have him : i = m := by omega
      subst him
      go_wp2
      go_end0
      have hg := HG.out
      rw [HML.out, List.take_length] at hg
      exact ⟨rfl, ⟨R, ix, im, l, rows, vl', D', vr, vu, hg, by omega, by omega, HIM.out⟩, HF.out⟩
end Go.Proofs.YtdfbjnachakkhaaGreatDoor
