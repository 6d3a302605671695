import Derived.Test.YtoelacloghkooaaGreatDoorM09
import Derived.Laws.Cover3
import Derived.Laws.OwnMore
import Derived.Laws.MakeOwn
/-
  What a byteStringReplacer of the program's three bytes holds, while it is built and behind that.
-/
namespace Go.Proofs.YtoelacloghkooaaGreatDoor
open Go.ChangeShapes Go.WideShapes Go.ChangeAt Go.RowKit
set_option linter.unusedVariables false
theorem eql_nil (a : Option Addr) (l c : Nat) (w : World) : (binOp .eql 49 (.slice a l c) (.slice none 0 0)).run Tryz.prog w = .ok (.bool a.isNone) w := by
  simp [binOp, run_equal_slice_nil w 49 5 a l c Tryz.underlying49]
theorem neq_nil (a : Option Addr) (l c : Nat) (w : World) : (binOp .neq 49 (.slice a l c) (.slice none 0 0)).run Tryz.prog w = .ok (.bool (!a.isNone)) w := run_neq_slice_nil w 49 5 a l c Tryz.underlying49
theorem below_fr {w w' : World} (h : w.grownBy w' none) : Below w.heap.size w w' := ⟨h.os, h.tape, h.output, h.size, fun k hk => h.block k hk (by simp)⟩
theorem fr_below {w w' : World} (h : Below w.heap.size w w') : w.grownBy w' none := ⟨h.os, h.tape, h.output, h.size, fun k hk _ => h.block k hk⟩
/-- a block's row is of that type -/
def Kind (w : World) (b : Nat) (t : TypeId) : Prop := ∃ cur fz, w.heap[b]? = some (.cells cur t fz)
theorem Kind.lt {w : World} {b : Nat} {t : TypeId} (h : Kind w b t) : b < w.heap.size := by
  obtain ⟨cur, fz, h⟩ := h
  exact (Array.getElem?_eq_some_iff.1 h).1
theorem Kind.ne {w : World} {b c : Nat} {t u : TypeId} (h : Kind w b t) (k : Kind w c u) (hne : t ≠ u) : b ≠ c := by
  rintro rfl
  obtain ⟨c1, f1, h⟩ := h
  obtain ⟨c2, f2, k⟩ := k
  rw [h] at k
  cases k
  exact hne rfl
theorem Kind.far {w w' : World} {b : Nat} {t : TypeId} (h : Kind w b t) (hb : w'.heap[b]? = w.heap[b]?) : Kind w' b t := by
  obtain ⟨c1, f1, h⟩ := h
  exact ⟨c1, f1, hb.trans h⟩
theorem Kind.grown {w w' : World} {b : Nat} {t : TypeId} {row : Option Nat} (h : Kind w b t) (hg : w.grownBy w' row) (hne : some b ≠ row) : Kind w' b t := h.far (hg.block b h.lt hne)
theorem Kind.set {w : World} {b : Nat} {t : TypeId} (h : Kind w b t) (a : Addr) (u : Value) : Kind (w.setCell a u) b t := by
  obtain ⟨c1, f1, h⟩ := h
  by_cases e : a.block = b
  · refine ⟨if a.spot.isSome then c1 else c1.setIfInBounds a.off u, f1, ?_⟩
    simp [World.setCell, Array.getElem?_modify, e, h]
  · exact ⟨c1, f1, by simp [World.setCell, Array.getElem?_modify, e, h]⟩
theorem own_kind {w : World} {B : Nat} {e : TypeId} {size : Nat} {v : Value} {n : Nat} {xs : List Value} (h : w.ownsRow B e size v n xs) {g : Nat} (hv : v.ownBlock = some g) : Kind w g e := by
  rcases h.2 with ⟨rfl, _⟩ | ⟨g', cap, cur, rfl, _, hg, _⟩
  · cases hv
  · cases hv; exact ⟨cur, _, hg⟩
theorem Row8.far {w w' : World} {g : Nat} {l : List UInt8} (h : Row8 w g l) (hb : w'.heap[g]? = w.heap[g]?) : Row8 w' g l := fun i c hc =>
  ⟨(World.cell?_of_block (w := w) (w' := w') (a := ⟨g, i, none⟩) hb).trans (h i c hc).1, (World.frozen?_of_block (w := w) (w' := w') (a := ⟨g, i, none⟩) hb).trans (h i c hc).2⟩
/-- '[]byte(s)', and of what kind its block is -/
theorem bytes_row (w : World) (s : ByteArray) : ∃ (cap : Nat) (w1 : World), Sem.run Tryz.prog (convert 9 49 (.string s)) w = .ok (.slice (some ⟨w.heap.size, 0, none⟩) s.size cap) w1 ∧ Row8 w1 w.heap.size s.data.toList ∧ Kind w1 w.heap.size 5 ∧ w.grownBy w1 none := by
  have hr := run_bytes_of_string (P := Tryz.prog) w 9 49 5 s Tryz.underlying9 Tryz.underlying49 Tryz.underlying5
  obtain ⟨cap, w1, h1, h2, h3, h4⟩ := bytes_of w s
  rw [hr] at h1
  injection h1 with h1 h5
  subst h5
  exact ⟨_, _, hr, h2, ⟨_, _, heap_alloc_new w.drew _⟩, fr_both (fr_draws w 1 none) (fr_alloc _ _ _)⟩
/-- the bytes that are turned, and what they become, in the order in which they are laid -/
def repB : List (UInt8 × List UInt8) := [(10, [92, 110]), (92, [92, 92]), (34, [92, 34])]
theorem repB_inj0 : ∀ j, j < 3 → ∀ k, k < 3 → (repB[j]?).map (·.1) = (repB[k]?).map (·.1) → j = k := by decide
theorem repB_inj {j k : Nat} {c : UInt8} {r r' : List UInt8} (h : repB[j]? = some (c, r)) (h' : repB[k]? = some (c, r')) : j = k := by
  have lt : ∀ {i : Nat} {x : UInt8 × List UInt8}, repB[i]? = some x → i < 3 := fun {i x} hi => by
    rcases Nat.lt_or_ge i 3 with h | h
    · exact h
    · rw [List.getElem?_eq_none (by simp [repB]; omega)] at hi; cases hi
  exact repB_inj0 j (lt h) k (lt h') (by rw [h, h']; rfl)
def repS (m : Nat) : List Value := (repB.take m).map fun p => .string (str [p.1])
structure RepAt (base : Nat) (w : World) (R k m : Nat) : Prop where
  kind : Kind w R 208
  rows : ∀ (j : Nat) (c : UInt8) (r : List UInt8), j < k → repB[j]? = some (c, r) → ∃ g cap, w.cell? ⟨R, c.toNat, none⟩ = some (.slice (some ⟨g, 0, none⟩) 2 cap) ∧ Row8 w g r ∧ Kind w g 5
  gone : ∀ i, i < 256 → (∀ (j : Nat) (c : UInt8) (r : List UInt8), j < k → repB[j]? = some (c, r) → c.toNat ≠ i) → w.cell? ⟨R, i, none⟩ = some (.slice none 0 0)
  list : ∃ v, w.cell? ⟨R, 256, none⟩ = some v ∧ w.ownsRow base 9 1 v m (repS m)
  thaw : ∀ i, i < 257 → w.frozen? ⟨R, i, none⟩ = false
theorem RepAt.grown {base : Nat} {w w' : World} {R k m : Nat} (h : RepAt base w R k m) (hg : w.grownBy w' none) : RepAt base w' R k m := by
  have hR := hg.block R h.kind.lt (by simp)
  refine ⟨h.kind.far hR, fun j c r hj hc => ?_, fun i hi hn => (World.cell?_of_block (a := ⟨R, i, none⟩) hR).trans (h.gone i hi hn), ?_, fun i hi => (World.frozen?_of_block (a := ⟨R, i, none⟩) hR).trans (h.thaw i hi)⟩
  · obtain ⟨g, cap, h1, h2, h3⟩ := h.rows j c r hj hc
    have hb := hg.block g h3.lt (by simp)
    exact ⟨g, cap, (World.cell?_of_block (a := ⟨R, c.toNat, none⟩) hR).trans h1, h2.far hb, h3.far hb⟩
  · obtain ⟨v, h1, h2⟩ := h.list
    exact ⟨v, (World.cell?_of_block (a := ⟨R, 256, none⟩) hR).trans h1, own_far h2 hg (fun _ _ => by simp)⟩
/-- while a block of another kind turns -/
theorem RepAt.other {base : Nat} {w w' : World} {R k m b : Nat} {t : TypeId} (h : RepAt base w R k m) (hg : w.grownBy w' (some b)) (hb : Kind w b t) (h1 : t ≠ 208) (h2 : t ≠ 5) (h3 : t ≠ 9) : RepAt base w' R k m := by
  have hR := hg.block R h.kind.lt (fun e => by cases e; exact hb.ne h.kind h1 rfl)
  refine ⟨h.kind.far hR, fun j c r hj hc => ?_, fun i hi hn => (World.cell?_of_block (a := ⟨R, i, none⟩) hR).trans (h.gone i hi hn), ?_, fun i hi => (World.frozen?_of_block (a := ⟨R, i, none⟩) hR).trans (h.thaw i hi)⟩
  · obtain ⟨g, cap, e1, e2, e3⟩ := h.rows j c r hj hc
    have hgb := hg.block g e3.lt (fun e => by cases e; exact hb.ne e3 h2 rfl)
    exact ⟨g, cap, (World.cell?_of_block (a := ⟨R, c.toNat, none⟩) hR).trans e1, e2.far hgb, e3.far hgb⟩
  · obtain ⟨v, e1, e2⟩ := h.list
    exact ⟨v, (World.cell?_of_block (a := ⟨R, 256, none⟩) hR).trans e1, own_far e2 hg (fun g hv e => by cases e; exact hb.ne (own_kind e2 hv) h3 rfl)⟩
/-- one text more in the list -/
theorem RepAt.push {base : Nat} {w w4 : World} {R k m : Nat} {v v4 : Value} (h : RepAt base w R k m) (hv : w.ownsRow base 9 1 v m (repS m)) (hg : w.grownBy w4 v.ownBlock) (ho : w4.ownsRow base 9 1 v4 (m + 1) (repS (m + 1))) : RepAt base (w4.setCell ⟨R, 256, none⟩ v4) R k (m + 1) := by
  have far : ∀ (b : Nat) (t : TypeId), Kind w b t → t ≠ 9 → w4.heap[b]? = w.heap[b]? := fun b t hk hne => hg.block b hk.lt (fun e => hk.ne (own_kind hv e.symm) hne rfl)
  have hR := far R _ h.kind (by decide)
  have hk4 : Kind w4 R 208 := h.kind.far hR
  refine ⟨hk4.set _ _, fun j c r hj hc => ?_, fun i hi hn => ?_, ⟨v4, ?_, ?_⟩, fun i hi => ?_⟩
  · obtain ⟨g, cap, h1, h2, h3⟩ := h.rows j c r hj hc
    have hb := far g _ h3 (by decide)
    have hne : g ≠ R := h3.ne h.kind (by decide)
    have hb2 : (w4.setCell ⟨R, 256, none⟩ v4).heap[g]? = w4.heap[g]? := Below.heap_setCell _ _ _ _ hne
    have hc256 := c.toNat_lt
    refine ⟨g, cap, ?_, (h2.far hb).far hb2, (h3.far hb).set _ _⟩
    rw [World.cell?_setCell_other _ _ _ _ (fun e => by have h := congrArg Addr.off e; simp only at h; omega)]
    exact (World.cell?_of_block (a := ⟨R, c.toNat, none⟩) hR).trans h1
  · rw [World.cell?_setCell_other _ _ _ _ (fun e => by have h := congrArg Addr.off e; simp only at h; omega)]
    exact (World.cell?_of_block (a := ⟨R, i, none⟩) hR).trans (h.gone i hi hn)
  · obtain ⟨u, h1, _⟩ := h.list
    exact World.cell?_setCell_same _ _ _ ((World.cell?_of_block (a := ⟨R, 256, none⟩) hR).trans h1)
  · exact own_far ho (fr_set _ _ _ _) (fun g hgv e => by cases e; exact (own_kind ho hgv).ne hk4 (by decide) rfl)
  · rw [World.frozen?_setCell]
    exact (World.frozen?_of_block (a := ⟨R, i, none⟩) hR).trans (h.thaw i hi)
theorem RepAt.after {base : Nat} {w w4 : World} {R k m : Nat} {v : Value} (h : RepAt base w R k m) (hv : w.ownsRow base 9 1 v m (repS m)) (hg : w.grownBy w4 v.ownBlock) : (∃ u, w4.cell? ⟨R, 256, none⟩ = some u) ∧ w4.frozen? ⟨R, 256, none⟩ = false := by
  have hR : w4.heap[R]? = w.heap[R]? := hg.block R h.kind.lt (fun e => h.kind.ne (own_kind hv e.symm) (by decide) rfl)
  obtain ⟨u, h1, _⟩ := h.list
  exact ⟨⟨u, (World.cell?_of_block (a := ⟨R, 256, none⟩) hR).trans h1⟩, (World.frozen?_of_block (a := ⟨R, 256, none⟩) hR).trans (h.thaw 256 (by omega))⟩
theorem set_size0 (w : World) (a : Addr) (u : Value) : (w.setCell a u).heap.size = w.heap.size := by simp [World.setCell]
/-- one byte's row more -/
theorem RepAt.put {base : Nat} {w : World} {R k m g cap : Nat} {c : UInt8} {r : List UInt8} (h : RepAt base w R k m) (hc : repB[k]? = some (c, r)) (hr : Row8 w g r) (hk : Kind w g 5) : RepAt base (w.setCell ⟨R, c.toNat, none⟩ (.slice (some ⟨g, 0, none⟩) 2 cap)) R (k + 1) m := by
  have hc256 := c.toNat_lt
  have hsame : ∃ u, w.cell? ⟨R, c.toNat, none⟩ = some u := by
    by_cases hx : ∃ (j : Nat) (c' : UInt8) (r' : List UInt8), j < k ∧ repB[j]? = some (c', r') ∧ c'.toNat = c.toNat
    · obtain ⟨j, c', r', hj, hc', he⟩ := hx
      obtain ⟨g', cap', h1, _⟩ := h.rows j c' r' hj hc'
      rw [he] at h1; exact ⟨_, h1⟩
    · exact ⟨_, h.gone c.toNat (by omega) (fun j c' r' hj hc' he => hx ⟨j, c', r', hj, hc', he⟩)⟩
  obtain ⟨u0, hu0⟩ := hsame
  refine ⟨h.kind.set _ _, fun j c' r' hj hc' => ?_, fun i hi hn => ?_, ?_, fun i hi => by rw [World.frozen?_setCell]; exact h.thaw i hi⟩
  · by_cases hjk : j = k
    · subst hjk
      rw [hc] at hc'
      cases hc'
      have hb2 : (w.setCell ⟨R, c.toNat, none⟩ (.slice (some ⟨g, 0, none⟩) 2 cap)).heap[g]? = w.heap[g]? := Below.heap_setCell _ _ _ _ (hk.ne h.kind (by decide))
      exact ⟨g, cap, World.cell?_setCell_same _ _ _ hu0, hr.far hb2, hk.set _ _⟩
    · obtain ⟨g', cap', h1, h2, h3⟩ := h.rows j c' r' (by omega) hc'
      have hb2 : (w.setCell ⟨R, c.toNat, none⟩ (.slice (some ⟨g, 0, none⟩) 2 cap)).heap[g']? = w.heap[g']? := Below.heap_setCell _ _ _ _ (h3.ne h.kind (by decide))
      refine ⟨g', cap', ?_, h2.far hb2, h3.set _ _⟩
      rw [World.cell?_setCell_other]
      · exact h1
      · intro e
        have he : c.toNat = c'.toNat := by simpa using congrArg Addr.off e
        have hcc : c = c' := UInt8.toNat_inj.1 he
        subst hcc
        exact hjk (repB_inj hc' hc)
  · have hne : c.toNat ≠ i := hn k c r (by omega) hc
    rw [World.cell?_setCell_other _ _ _ _ (fun e => by have h := congrArg Addr.off e; simp only at h; omega)]
    exact h.gone i hi (fun j c' r' hj hc' => hn j c' r' (by omega) hc')
  · obtain ⟨v, h1, h2⟩ := h.list
    refine ⟨v, ?_, own_far h2 (fr_set _ _ _ _) (fun g' hgv e => by cases e; exact (own_kind h2 hgv).ne h.kind (by decide) rfl)⟩
    rw [World.cell?_setCell_other _ _ _ _ (fun e => by have h := congrArg Addr.off e; simp only at h; omega)]
    exact h1
theorem zero_rep : Tryz.zeroCells208.toList = List.replicate 257 (.slice none 0 0) := by kernel_rfl
/-- the new one, right behind its literal -/
theorem RepAt.new (wm : World) (v : Value) (base : Nat) (hv : wm.ownsRow base 9 1 v 0 []) (hv1 : v.oneCell' = true) :
    Sem.run Tryz.prog (storeCells ⟨wm.heap.size, 0, none⟩ (Tryz.zeroCells208.toList.set 256 v)) (wm.alloc (.cells Tryz.zeroCells208 208)) = .ok () ((wm.alloc (.cells Tryz.zeroCells208 208)).setCells wm.heap.size 0 (Tryz.zeroCells208.toList.set 256 v)) ∧
    RepAt base ((wm.alloc (.cells Tryz.zeroCells208 208)).setCells wm.heap.size 0 (Tryz.zeroCells208.toList.set 256 v)) wm.heap.size 0 0 ∧
    wm.grownBy ((wm.alloc (.cells Tryz.zeroCells208 208)).setCells wm.heap.size 0 (Tryz.zeroCells208.toList.set 256 v)) none := by
  have hbx := Box.at wm wm.heap.size Tryz.zeroCells208.toList 208 rfl
  rw [Array.toArray_toList] at hbx
  have hkd : Kind (wm.alloc (.cells Tryz.zeroCells208 208)) wm.heap.size 208 := ⟨_, _, heap_alloc_new wm _⟩
  have hg0 : wm.grownBy (wm.alloc (.cells Tryz.zeroCells208 208)) none := fr_alloc _ _ _
  rw [zero_rep] at hbx ⊢
  generalize wm.alloc (.cells Tryz.zeroCells208 208) = w1 at *
  generalize hR : wm.heap.size = R at *
  have hlen : ((List.replicate 257 (Value.slice none 0 0)).set 256 v).length = 257 := by rw [List.length_set, List.length_replicate]
  have hcell : ∀ j, j < 257 → w1.cell? ⟨R, j, none⟩ = some (.slice none 0 0) := fun j hj => hbx.c j _ (by rw [List.getElem?_replicate]; simp [hj])
  have hfz : ∀ j, j < 257 → w1.frozen? ⟨R, j, none⟩ = false := fun j hj => hbx.f j (.slice none 0 0) (by rw [List.getElem?_replicate]; simp [hj])
  have hset : ∀ (vs : List Value) (o : Nat) (w2 : World), Kind w2 R 208 → Kind (w2.setCells R o vs) R 208 := by
    intro vs
    induction vs with
    | nil => intro o w2 h; exact h
    | cons x vs ih => intro o w2 h; exact ih _ _ (h.set _ _)
  have hfr : ∀ (vs : List Value) (o : Nat) (w2 : World), wm.grownBy w2 none → wm.grownBy (w2.setCells R o vs) none := by
    intro vs
    induction vs with
    | nil => intro o w2 h; exact h
    | cons x vs ih => intro o w2 h; exact ih _ _ (fr_new h (by omega) _ _)
  have hin := World.cell?_setCells_in R ((List.replicate 257 (Value.slice none 0 0)).set 256 v) 0 w1 (fun j hj => by rw [hlen] at hj; rw [Nat.zero_add, hcell j hj]; rfl)
  have hgr := hfr ((List.replicate 257 (Value.slice none 0 0)).set 256 v) 0 w1 hg0
  refine ⟨?_, ⟨hset _ _ _ hkd, fun j c r hj => by omega, fun i hi _ => ?_, ⟨v, ?_, ?_⟩, fun i hi => ?_⟩, hgr⟩
  · have := run_storeCells_cells (P := Tryz.prog) R 0 ((List.replicate 257 (Value.slice none 0 0)).set 256 v) 0 w1 (fun j hj => by rw [hlen] at hj; rw [show 0 + 0 + j = j by omega, hcell j hj]; rfl) (fun j hj => by rw [hlen] at hj; rw [show 0 + 0 + j = j by omega]; exact hfz j hj) (fun x hx => by
      rcases List.mem_or_eq_of_mem_set hx with h | rfl
      · rw [(List.mem_replicate.1 h).2]; rfl
      · exact hv1)
    exact this
  · have := hin i (by rw [hlen]; omega)
    rw [Nat.zero_add] at this
    rw [this, List.getElem_set_ne (by omega), List.getElem_replicate]
  · have := hin 256 (by rw [hlen]; omega)
    rw [Nat.zero_add] at this
    rw [this, List.getElem_set_self]
  · exact own_far hv hgr (fun _ _ => by simp)
  · rw [World.frozen?_setCells]; exact hfz i hi
end Go.Proofs.YtoelacloghkooaaGreatDoor

/-
  strings.Replacer's build at those six texts, walked.
-/
namespace Go.Proofs.YtoelacloghkooaaGreatDoor
open Go.ChangeShapes Go.WideShapes Go.ChangeAt Go.RowKit
set_option linter.unusedVariables false
set_option maxRecDepth 100000 in
set_option maxHeartbeats 4000000 in
theorem build_any (b g cap : Nat) (w : World) (h4 : w.cell? ⟨b, 4, none⟩ = some (.slice (some ⟨g, 0, none⟩) 6 cap)) (hg : ∀ j u, six[j]? = some u → w.cell? ⟨g, j, none⟩ = some u) :
    Calls Tryz.prog 89 #[.pointer (some ⟨b, 0, none⟩)] w fun e w' => ∃ R, e = .returned (.iface 209 (.pointer (some ⟨R, 0, none⟩))) ∧ w.heap.size ≤ R ∧ RepAt w.heap.size w' R 3 3 ∧ w.grownBy w' none := by
  obtain ⟨i0, hi0, hz0, hz1, hz2⟩ := info_parts infoStr
  have c0 := hg 0 _ rfl
  have c1 := hg 1 _ rfl
  have c2 := hg 2 _ rfl
  have c3 := hg 3 _ rfl
  have c4 := hg 4 _ rfl
  have c5 := hg 5 _ rfl
  clear hg
  go_enter Tryz.func89, Tryz.ntmps89
  go_wp2_with fail
  go_loopw [4, 5] (fun av iv wr => ∃ k : Nat, k ≤ 3 ∧ iv = .int .i64 ((2 * k : Nat) : Int) ∧ w = wr ∧ av = .bool (decide (k = 0))) (fun _ iv _ => 6 - (intOf iv).toNat)
  case atStart => exact ⟨0, by omega, rfl, rfl, rfl⟩
  case round =>
    obtain ⟨k, hk, rfl, rfl, rfl⟩ := hrel
    have hk4 : k = 0 ∨ k = 1 ∨ k = 2 ∨ k = 3 := by omega
    rcases hk4 with rfl | rfl | rfl | rfl
    · go_wp2
      go_roundw
      case rel => exact ⟨1, by omega, by go_num, by first | trivial | rfl, rfl⟩
      case measure => simp [intOf]
    · go_wp2
      go_roundw
      case rel => exact ⟨2, by omega, by go_num, by first | trivial | rfl, rfl⟩
      case measure => simp [intOf]
    · go_wp2
      go_roundw
      case rel => exact ⟨3, by omega, by go_num, by first | trivial | rfl, rfl⟩
      case measure => simp [intOf]
    · obtain ⟨wm, hmk, hownM, hgM⟩ := run_make_own w w.heap.size 125 9 i0 (.string { data := #[] }) 1 (P := Tryz.prog) Tryz.underlying125 hi0 hz0 hz1 .i64 .i64 3 (by rw [hz2]; omega) (by unfold maxLen; omega) (Nat.le_refl _)
      have hmk' : Sem.run Tryz.prog (Instr.makeSlice 125 (.int .i64 0) (.int .i64 3)) w = .ok (.slice (some ⟨w.heap.size, 0, none⟩) 0 3) wm := hmk
      have HOM := hide hownM
      have HGM := hide hgM
      obtain ⟨hst, hrep, hgR⟩ := RepAt.new wm _ w.heap.size hownM rfl
      have HRP := hide hrep
      have HGR := hide (fr_both hgM hgR)
      have hRR : w.heap.size ≤ wm.heap.size := hgM.size
      generalize World.setCells _ _ _ _ = w5 at hst HRP HGR
      clear hmk hownM hgM hrep hgR
      go_wp2_with fail
      clear hst hmk'
      generalize wm.heap.size = R at *
      go_loopw [12, 13, 14] (fun iv ov nv wz => ∃ k : Nat, k ≤ 3 ∧ iv = .int .i64 (4 - 2 * (k : Int)) ∧ Hid (RepAt w.heap.size wz R k k) ∧ Hid (w.grownBy wz none)) (fun iv _ _ _ => (intOf iv + 2).toNat)
      case atStart => exact ⟨0, by omega, rfl, HRP, HGR⟩
      case round =>
        obtain ⟨k, hk, rfl, HRK, HGK⟩ := hrel
        clear HRP HGR
        have d0 := grown_cell0 HGK.out c0
        have d1 := grown_cell0 HGK.out c1
        have d2 := grown_cell0 HGK.out c2
        have d3 := grown_cell0 HGK.out c3
        have d4 := grown_cell0 HGK.out c4
        have d5 := grown_cell0 HGK.out c5
        clear c0 c1 c2 c3 c4 c5 h4
        obtain ⟨v, hv, hvo⟩ := HRK.out.list
        have HVO := hide hvo
        obtain ⟨va, vc, hvf⟩ := own_form hvo
        subst hvf
        clear hvo
        have hk4 : k = 0 ∨ k = 1 ∨ k = 2 ∨ k = 3 := by omega
        rcases hk4 with rfl | rfl | rfl | rfl
        · have r0 : wr.cell? ⟨R, 10, none⟩ = some (.slice none 0 0) := HRK.out.gone 10 (by omega) (fun j c r hj => by omega)
          have hx : ((({ data := #[10] } : ByteArray)[0]'(by decide)).toNat : Int) = 10 := rfl
          have hx2 : ((({ data := #[10] } : ByteArray)[0]'(by decide)).toNat) = 10 := rfl
          have hnil := eql_nil none 0 0
          have t0 := HRK.out.thaw 256 (by omega)
          have t1 := HRK.out.thaw 10 (by omega)
          have hcv : Sem.run Tryz.prog (convert 49 9 (.slice (some ⟨wr.heap.size, 0, none⟩) 1 1)) (wr.alloc (.cells #[.int .u8 10] 5)) = .ok (.string (str [10])) (wr.alloc (.cells #[.int .u8 10] 5)) := lit_string wr [10]
          go_wp2_with (at_builtin; refine wpList_append_own _ rfl _ _ 125 rfl w.heap.size 9 i0 (.string { data := #[] }) 1 16 Tryz.underlying125 hi0 hz0 hz1 hz2 rfl (by decide) _ _ _ rfl ((HVO.out.alloc _).alloc _) ⟨wr.heap.size + 1, 0, none⟩ 1 1 [.string (str [10])] rfl rfl ?c1 ?c2 ?c3 ?c4 ?c5 ?_)
          case c1 =>
            intro j' u hj'
            match j', hj' with
            | 0, hj' => simp at hj'; subst hj'; simp [Addr.add]
          case c2 => intro u hu; simp at hu; subst hu; rfl
          case c3 => unfold maxLen; omega
          case c4 => omega
          case c5 => have := HGK.out.size; simp; omega
          intro v4 w4 hown4 hg4 _
          have HR4 := hide (((HRK.out.grown (fr_alloc _ _ _)).grown (fr_alloc _ _ _)).push (((HVO.out.alloc _).alloc _)) hg4 hown4)
          have hR4 := ((HRK.out.grown (fr_alloc _ _ _)).grown (fr_alloc _ _ _)).after ((HVO.out.alloc _).alloc _) hg4
          have HG4 : Hid (w.grownBy w4 none) := hide (fr_own (fr_both (fr_both HGK.out (fr_alloc _ _ none)) (fr_alloc _ _ none)) ((HVO.out.alloc _).alloc _) (Nat.le_refl _) hg4)
          obtain ⟨a4, p4, rfl⟩ := own_form hown4
          obtain ⟨x4, hx4⟩ := hR4.1
          have z4 := hR4.2
          clear hR4 hown4 hg4 hcv r0 t0 t1 hv d0 d1 d2 d3 d4 d5
          obtain ⟨cap6, w6, hcv6, hrow6, hkd6, hg6⟩ := bytes_row (w4.setCell ⟨R, 256, none⟩ (.slice a4 (_ + 1) p4)) { data := #[92, 110] }
          have HR6 := hide (HR4.out.grown hg6)
          have HROW := hide hrow6
          have HKD := hide hkd6
          have HG6 : Hid (w.grownBy w6 none) := hide (fr_both (fr_new HG4.out (by have := hRR; omega) _ _) hg6)
          have x6 : w6.cell? ⟨R, 10, none⟩ = some (.slice none 0 0) := HR6.out.gone 10 (by omega) (fun j c r hj => by omega)
          have z6 := HR6.out.thaw 10 (by omega)
          rw [set_size0] at HROW HKD
          clear hrow6 hkd6 hg6 HR4
          go_wp2
          go_roundw
          case rel => exact ⟨1, by omega, by go_num, HR6.out.put (k := 0) (c := 10) (r := [92, 110]) rfl HROW.out HKD.out, fr_new HG6.out (by have := hRR; omega) _ _⟩
          case measure => first | (simp [intOf]; done) | (simp [intOf]; omega)
        · have r0 : wr.cell? ⟨R, 92, none⟩ = some (.slice none 0 0) := HRK.out.gone 92 (by omega) (fun j c r hj hc => by rcases (show j = 0 ∨ j = 1 by omega) with rfl | rfl <;> (first | (exfalso; omega) | (simp [repB] at hc; rw [← hc.1]; decide)))
          have hx : ((({ data := #[92] } : ByteArray)[0]'(by decide)).toNat : Int) = 92 := rfl
          have hx2 : ((({ data := #[92] } : ByteArray)[0]'(by decide)).toNat) = 92 := rfl
          have hnil := eql_nil none 0 0
          have t0 := HRK.out.thaw 256 (by omega)
          have t1 := HRK.out.thaw 92 (by omega)
          have hcv : Sem.run Tryz.prog (convert 49 9 (.slice (some ⟨wr.heap.size, 0, none⟩) 1 1)) (wr.alloc (.cells #[.int .u8 92] 5)) = .ok (.string (str [92])) (wr.alloc (.cells #[.int .u8 92] 5)) := lit_string wr [92]
          go_wp2_with (at_builtin; refine wpList_append_own _ rfl _ _ 125 rfl w.heap.size 9 i0 (.string { data := #[] }) 1 16 Tryz.underlying125 hi0 hz0 hz1 hz2 rfl (by decide) _ _ _ rfl ((HVO.out.alloc _).alloc _) ⟨wr.heap.size + 1, 0, none⟩ 1 1 [.string (str [92])] rfl rfl ?c1 ?c2 ?c3 ?c4 ?c5 ?_)
          case c1 =>
            intro j' u hj'
            match j', hj' with
            | 0, hj' => simp at hj'; subst hj'; simp [Addr.add]
          case c2 => intro u hu; simp at hu; subst hu; rfl
          case c3 => unfold maxLen; omega
          case c4 => omega
          case c5 => have := HGK.out.size; simp; omega
          intro v4 w4 hown4 hg4 _
          have HR4 := hide (((HRK.out.grown (fr_alloc _ _ _)).grown (fr_alloc _ _ _)).push (((HVO.out.alloc _).alloc _)) hg4 hown4)
          have hR4 := ((HRK.out.grown (fr_alloc _ _ _)).grown (fr_alloc _ _ _)).after ((HVO.out.alloc _).alloc _) hg4
          have HG4 : Hid (w.grownBy w4 none) := hide (fr_own (fr_both (fr_both HGK.out (fr_alloc _ _ none)) (fr_alloc _ _ none)) ((HVO.out.alloc _).alloc _) (Nat.le_refl _) hg4)
          obtain ⟨a4, p4, rfl⟩ := own_form hown4
          obtain ⟨x4, hx4⟩ := hR4.1
          have z4 := hR4.2
          clear hR4 hown4 hg4 hcv r0 t0 t1 hv d0 d1 d2 d3 d4 d5
          obtain ⟨cap6, w6, hcv6, hrow6, hkd6, hg6⟩ := bytes_row (w4.setCell ⟨R, 256, none⟩ (.slice a4 (_ + 1) p4)) { data := #[92, 92] }
          have HR6 := hide (HR4.out.grown hg6)
          have HROW := hide hrow6
          have HKD := hide hkd6
          have HG6 : Hid (w.grownBy w6 none) := hide (fr_both (fr_new HG4.out (by have := hRR; omega) _ _) hg6)
          have x6 : w6.cell? ⟨R, 92, none⟩ = some (.slice none 0 0) := HR6.out.gone 92 (by omega) (fun j c r hj hc => by rcases (show j = 0 ∨ j = 1 by omega) with rfl | rfl <;> (first | (exfalso; omega) | (simp [repB] at hc; rw [← hc.1]; decide)))
          have z6 := HR6.out.thaw 92 (by omega)
          rw [set_size0] at HROW HKD
          clear hrow6 hkd6 hg6 HR4
          go_wp2
          go_roundw
          case rel => exact ⟨2, by omega, by go_num, HR6.out.put (k := 1) (c := 92) (r := [92, 92]) rfl HROW.out HKD.out, fr_new HG6.out (by have := hRR; omega) _ _⟩
          case measure => first | (simp [intOf]; done) | (simp [intOf]; omega)
        · have r0 : wr.cell? ⟨R, 34, none⟩ = some (.slice none 0 0) := HRK.out.gone 34 (by omega) (fun j c r hj hc => by rcases (show j = 0 ∨ j = 1 by omega) with rfl | rfl <;> (first | (exfalso; omega) | (simp [repB] at hc; rw [← hc.1]; decide)))
          have hx : ((({ data := #[34] } : ByteArray)[0]'(by decide)).toNat : Int) = 34 := rfl
          have hx2 : ((({ data := #[34] } : ByteArray)[0]'(by decide)).toNat) = 34 := rfl
          have hnil := eql_nil none 0 0
          have t0 := HRK.out.thaw 256 (by omega)
          have t1 := HRK.out.thaw 34 (by omega)
          have hcv : Sem.run Tryz.prog (convert 49 9 (.slice (some ⟨wr.heap.size, 0, none⟩) 1 1)) (wr.alloc (.cells #[.int .u8 34] 5)) = .ok (.string (str [34])) (wr.alloc (.cells #[.int .u8 34] 5)) := lit_string wr [34]
          go_wp2_with (at_builtin; refine wpList_append_own _ rfl _ _ 125 rfl w.heap.size 9 i0 (.string { data := #[] }) 1 16 Tryz.underlying125 hi0 hz0 hz1 hz2 rfl (by decide) _ _ _ rfl ((HVO.out.alloc _).alloc _) ⟨wr.heap.size + 1, 0, none⟩ 1 1 [.string (str [34])] rfl rfl ?c1 ?c2 ?c3 ?c4 ?c5 ?_)
          case c1 =>
            intro j' u hj'
            match j', hj' with
            | 0, hj' => simp at hj'; subst hj'; simp [Addr.add]
          case c2 => intro u hu; simp at hu; subst hu; rfl
          case c3 => unfold maxLen; omega
          case c4 => omega
          case c5 => have := HGK.out.size; simp; omega
          intro v4 w4 hown4 hg4 _
          have HR4 := hide (((HRK.out.grown (fr_alloc _ _ _)).grown (fr_alloc _ _ _)).push (((HVO.out.alloc _).alloc _)) hg4 hown4)
          have hR4 := ((HRK.out.grown (fr_alloc _ _ _)).grown (fr_alloc _ _ _)).after ((HVO.out.alloc _).alloc _) hg4
          have HG4 : Hid (w.grownBy w4 none) := hide (fr_own (fr_both (fr_both HGK.out (fr_alloc _ _ none)) (fr_alloc _ _ none)) ((HVO.out.alloc _).alloc _) (Nat.le_refl _) hg4)
          obtain ⟨a4, p4, rfl⟩ := own_form hown4
          obtain ⟨x4, hx4⟩ := hR4.1
          have z4 := hR4.2
          clear hR4 hown4 hg4 hcv r0 t0 t1 hv d0 d1 d2 d3 d4 d5
          obtain ⟨cap6, w6, hcv6, hrow6, hkd6, hg6⟩ := bytes_row (w4.setCell ⟨R, 256, none⟩ (.slice a4 (_ + 1) p4)) { data := #[92, 34] }
          have HR6 := hide (HR4.out.grown hg6)
          have HROW := hide hrow6
          have HKD := hide hkd6
          have HG6 : Hid (w.grownBy w6 none) := hide (fr_both (fr_new HG4.out (by have := hRR; omega) _ _) hg6)
          have x6 : w6.cell? ⟨R, 34, none⟩ = some (.slice none 0 0) := HR6.out.gone 34 (by omega) (fun j c r hj hc => by rcases (show j = 0 ∨ j = 1 by omega) with rfl | rfl <;> (first | (exfalso; omega) | (simp [repB] at hc; rw [← hc.1]; decide)))
          have z6 := HR6.out.thaw 34 (by omega)
          rw [set_size0] at HROW HKD
          clear hrow6 hkd6 hg6 HR4
          go_wp2
          go_roundw
          case rel => exact ⟨3, by omega, by go_num, HR6.out.put (k := 2) (c := 34) (r := [92, 34]) rfl HROW.out HKD.out, fr_new HG6.out (by have := hRR; omega) _ _⟩
          case measure => first | (simp [intOf]; done) | (simp [intOf]; omega)
        · have hmi := run_makeInterface (P := Tryz.prog) wr 209 (.pointer (some ⟨R, 0, none⟩)) (by kernel_rfl)
          go_wp2
          go_ret
          exact ⟨R, rfl, hRR, HRK.out, HGK.out⟩
end Go.Proofs.YtoelacloghkooaaGreatDoor
