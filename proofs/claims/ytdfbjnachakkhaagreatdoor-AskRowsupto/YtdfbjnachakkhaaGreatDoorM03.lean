import Derived.Test.YtdfbjnachakkhaaGreatDoorM02
import Derived.Test.YtdfbjnachakkhaaGreatDoorM01
import Derived.Deep.DeepCutAuto
import Derived.Deep.RegionHeld3
namespace Go.Proofs.YtdfbjnachakkhaaGreatDoor
open Go.ChangeShapes Go.WideShapes Go.ChangeAt Go.RowKit
set_option linter.unusedVariables false
theorem at0_get (s : ByteArray) (p : Nat) (h : p < s.size) : at0 s p = s[p] := by unfold at0; rw [dif_pos h]
theorem word_le (s : ByteArray) (p : Nat) (h : p ≤ s.size) : p + (wordAt s.data.toList p).length ≤ s.size := by
  have h1 : (wordAt s.data.toList p).length ≤ (s.data.toList.drop p).length := (List.takeWhile_prefix _).length_le
  rw [List.length_drop] at h1
  have : s.data.toList.length = s.size := by simp
  omega
theorem skip_le (s : ByteArray) (i : Nat) (h : i ≤ s.size) : skipTo s.data.toList i ≤ s.size := by
  have e : s.data.toList.length = s.size := by simp
  rw [← e]; exact skipTo_le _ _ (by rw [e]; exact h)
end Go.Proofs.YtdfbjnachakkhaaGreatDoor

namespace Go.Proofs.YtdfbjnachakkhaaGreatDoor
open Go.ChangeShapes Go.WideShapes Go.ChangeAt Go.RowKit
set_option linter.unusedVariables false
theorem hide {p : Prop} (h : p) : Hid p := h
theorem fr_refl (w : World) (row : Option Nat) : w.grownBy w row := ⟨rfl, rfl, rfl, Nat.le_refl _, fun _ _ _ => rfl⟩
theorem fr_set (w : World) (b j : Nat) (u : Value) : w.grownBy (w.setCell ⟨b, j, none⟩ u) (some b) := ⟨rfl, rfl, rfl, by simp [World.setCell], fun k hk hne => Below.heap_setCell _ _ _ _ (fun e => hne (by rw [e]))⟩
theorem fr_draws (w : World) (n : Nat) (row : Option Nat) : w.grownBy (w.drewN n) row := ⟨rfl, rfl, rfl, Nat.le_refl _, fun _ _ _ => rfl⟩
theorem fr_alloc (w : World) (o : Obj) (r : Option Nat) : w.grownBy (w.alloc o) r := ⟨rfl, rfl, rfl, by simp, fun k hk _ => Below.heap_alloc _ _ _ hk⟩
theorem fr_trans {a b c : World} {r s : Option Nat} (h : a.grownBy b r) (k : b.grownBy c s) (hs : ∀ g, s = some g → s = r ∨ a.heap.size ≤ g) : a.grownBy c r :=
  ⟨k.os.trans h.os, k.tape.trans h.tape, k.output.trans h.output, Nat.le_trans h.size k.size, fun j hj hne => by
    have h1 := h.block j hj hne
    have h2 := k.block j (Nat.lt_of_lt_of_le hj h.size) (fun e => by
      rcases hs j e.symm with e2 | e2
      · exact hne (e.trans e2)
      · omega)
    rw [h2, h1]⟩
/-- the same row twice -/
theorem fr_both {a b c : World} {r : Option Nat} (h : a.grownBy b r) (k : b.grownBy c r) : a.grownBy c r := fr_trans h k (fun _ _ => Or.inl rfl)
/-- a cell turned that did not lie there -/
theorem fr_new {a b : World} {r : Option Nat} (h : a.grownBy b r) {R : Nat} (hR : a.heap.size ≤ R) (j : Nat) (u : Value) : a.grownBy (b.setCell ⟨R, j, none⟩ u) r :=
  fr_trans h (fr_set b R j u) (fun g hg => Or.inr (by cases hg; exact hR))
/-- a row of one's own turned, that did not lie there -/
theorem fr_own {a b c : World} {r : Option Nat} {base : Nat} {e : TypeId} {size : Nat} {v : Value} {n : Nat} {xs : List Value} (h : a.grownBy b r) (ho : b.ownsRow base e size v n xs) (hb : a.heap.size ≤ base) (k : b.grownBy c v.ownBlock) : a.grownBy c r :=
  fr_trans h k (fun g hg => Or.inr (by
    rcases ho.2 with ⟨rfl, _⟩ | ⟨g', cap, cur, rfl, hbg, _⟩
    · cases hg
    · cases hg; exact Nat.le_trans hb hbg))
theorem own_far {w w' : World} {base : Nat} {e : TypeId} {size : Nat} {v : Value} {n : Nat} {xs : List Value} {row : Option Nat} (h : w.ownsRow base e size v n xs) (hg : w.grownBy w' row) (hne : ∀ g, v.ownBlock = some g → row ≠ some g) : w'.ownsRow base e size v n xs :=
  h.kept hg (by
    cases hv : v.ownBlock with
    | none => exact Or.inl rfl
    | some g => exact Or.inr (fun e => hne g hv e.symm))
theorem own_blk {w : World} {base : Nat} {e : TypeId} {size : Nat} {v : Value} {n : Nat} {xs : List Value} (h : w.ownsRow base e size v n xs) {g : Nat} (hv : v.ownBlock = some g) : base ≤ g ∧ g < w.heap.size := by
  rcases h.2 with ⟨rfl, _⟩ | ⟨g', cap, cur, rfl, hbg, hg, _⟩
  · cases hv
  · cases hv; exact ⟨hbg, (Array.getElem?_eq_some_iff.1 hg).1⟩
theorem own_lower {w : World} {b b' : Nat} {e : TypeId} {size : Nat} {v : Value} {n : Nat} {xs : List Value} (h : w.ownsRow b e size v n xs) (hb : b' ≤ b) : w.ownsRow b' e size v n xs := by
  refine ⟨h.1, ?_⟩
  rcases h.2 with h2 | ⟨g, cap, cur, hv, hbg, rest⟩
  · exact Or.inl h2
  · exact Or.inr ⟨g, cap, cur, hv, Nat.le_trans hb hbg, rest⟩
theorem own_form {w : World} {base : Nat} {e : TypeId} {size : Nat} {v : Value} {n : Nat} {xs : List Value} (h : w.ownsRow base e size v n xs) : ∃ a c, v = .slice a n c := by
  rcases h.2 with ⟨rfl, h0⟩ | ⟨g, cap, cur, rfl, _⟩
  · exact ⟨none, 0, by rw [h0]⟩
  · exact ⟨_, cap, rfl⟩
end Go.Proofs.YtdfbjnachakkhaaGreatDoor

namespace Go.Proofs.YtdfbjnachakkhaaGreatDoor
open Go.ChangeShapes Go.WideShapes Go.ChangeAt Go.RowKit
set_option linter.unusedVariables false
theorem RFx.g {w w' : World} {b : Nat} (h : RFx w w' b) : w.grownBy w' (some b) :=
  ⟨h.os, h.tape, h.output, by rw [h.size]; exact Nat.le_refl _, fun k hk hne => h.block k (fun e => hne (by rw [e]))⟩
/-- the string loop: one plain byte -/
theorem strGo_plain (s : ByteArray) (k : Nat) (h : k < s.size) (h34 : s[k].toNat ≠ 34) (h10 : s[k].toNat ≠ 10) (h92 : s[k].toNat ≠ 92) (acc : List UInt8) : strGo (s.data.toList.drop k) k acc = strGo (s.data.toList.drop (k + 1)) (k + 1) (acc ++ [s[k]]) := by
  rw [drop_byte s k h, strGo.eq_def]
  simp only []
  rw [if_neg (fun e => h34 (by rw [e]; rfl)), if_neg (fun e => h10 (by rw [e]; rfl)), if_neg (fun e => h92 (by rw [e]; rfl))]
theorem strGo_esc (s : ByteArray) (k : Nat) (h : k + 1 < s.size) (h92 : s[k].toNat = 92) (acc : List UInt8) : strGo (s.data.toList.drop k) k acc =
    if s[k + 1].toNat = 110 then strGo (s.data.toList.drop (k + 2)) (k + 2) (acc ++ [10]) else if s[k + 1].toNat = 34 ∨ s[k + 1].toNat = 92 then strGo (s.data.toList.drop (k + 2)) (k + 2) (acc ++ [s[k + 1]]) else .error (2, k + 1) := by
  have e : s[k] = 92 := by apply UInt8.toNat_inj.1; rw [h92]; rfl
  rw [drop_byte s k (by omega), drop_byte s (k + 1) h, strGo.eq_def]
  simp only []
  have e1 : (s[k + 1] = 110) = (s[k + 1].toNat = 110) := propext ⟨fun g => by rw [g]; rfl, fun g => by apply UInt8.toNat_inj.1; rw [g]; rfl⟩
  have e2 : (s[k + 1] = 34) = (s[k + 1].toNat = 34) := propext ⟨fun g => by rw [g]; rfl, fun g => by apply UInt8.toNat_inj.1; rw [g]; rfl⟩
  have e3 : (s[k + 1] = 92) = (s[k + 1].toNat = 92) := propext ⟨fun g => by rw [g]; rfl, fun g => by apply UInt8.toNat_inj.1; rw [g]; rfl⟩
  rw [if_neg (by rw [e]; decide), if_neg (by rw [e]; decide), if_pos e]
  simp only [e1, e2, e3]
theorem strGo_escend (s : ByteArray) (k : Nat) (h : k + 1 = s.size) (h92 : s[k].toNat = 92) (acc : List UInt8) : strGo (s.data.toList.drop k) k acc = .error (2, k + 1) := by
  have e : s[k] = 92 := by apply UInt8.toNat_inj.1; rw [h92]; rfl
  rw [drop_byte s k (by omega), drop_end s (k + 1) (by omega), strGo.eq_def]
  simp only []
  rw [if_neg (by rw [e]; decide), if_neg (by rw [e]; decide), if_pos e]
theorem strGo_end (s : ByteArray) (k : Nat) (h : s.size ≤ k) (acc : List UInt8) : strGo (s.data.toList.drop k) k acc = .error (2, k) := by
  rw [drop_end s k h, strGo]
theorem strGo_line (s : ByteArray) (k : Nat) (h : k < s.size) (h10 : s[k].toNat = 10) (acc : List UInt8) : strGo (s.data.toList.drop k) k acc = .error (2, k) := by
  have e : s[k] = 10 := by apply UInt8.toNat_inj.1; rw [h10]; rfl
  rw [drop_byte s k h, strGo.eq_def]
  simp only []
  rw [if_neg (by rw [e]; decide), if_pos e]
theorem strGo_quot (s : ByteArray) (k : Nat) (h : k < s.size) (h34 : s[k].toNat = 34) (acc : List UInt8) : strGo (s.data.toList.drop k) k acc = .ok (acc, k + 1) := by
  have e : s[k] = 34 := by apply UInt8.toNat_inj.1; rw [h34]; rfl
  rw [drop_byte s k h, strGo.eq_def]
  simp only []
  rw [if_pos e]
end Go.Proofs.YtdfbjnachakkhaaGreatDoor

namespace Go.Proofs.YtdfbjnachakkhaaGreatDoor
open Go.ChangeShapes Go.WideShapes Go.ChangeAt Go.RowKit
set_option linter.unusedVariables false
/-- cells that lie in a block of one's own -/
structure Box (w : World) (g : Nat) (vs : List Value) : Prop where
  c : ∀ (j : Nat) (v : Value), vs[j]? = some v → w.cell? ⟨g, j, none⟩ = some v
  f : ∀ (j : Nat) (v : Value), vs[j]? = some v → w.frozen? ⟨g, j, none⟩ = false
theorem Box.lt {w : World} {g : Nat} {vs : List Value} (h : Box w g vs) (h0 : 0 < vs.length) : g < w.heap.size := by
  rcases Nat.lt_or_ge g w.heap.size with h1 | h1
  · exact h1
  · have := h.c 0 vs[0] (List.getElem?_eq_getElem h0)
    simp [World.cell?, Array.getElem?_eq_none h1] at this
theorem Box.far {w w' : World} {g : Nat} {vs : List Value} (h : Box w g vs) (hb : w'.heap[g]? = w.heap[g]?) : Box w' g vs :=
  ⟨fun j v hj => (World.cell?_of_block hb).trans (h.c j v hj), fun j v hj => (World.frozen?_of_block hb).trans (h.f j v hj)⟩
theorem Box.grown {w w' : World} {g : Nat} {vs : List Value} {row : Option Nat} (h : Box w g vs) (h0 : 0 < vs.length) (hg : w.grownBy w' row) (hne : some g ≠ row) : Box w' g vs := h.far (hg.block g (h.lt h0) hne)
theorem Box.new (w : World) (cs : List Value) (t : TypeId) : Box (w.alloc (.cells cs.toArray t)) w.heap.size cs := by
  have hn := heap_alloc_new w (.cells cs.toArray t)
  constructor
  · intro j v hj
    simp only [World.cell?, hn]
    simpa using hj
  · intro j v hj
    simp only [World.frozen?, hn]
    simp
/-- a term as a value -/
def termV (t : PTerm) : List Value := [.bool t.isVar, .string (str t.text), .int .i64 (t.place : Nat)]
theorem strGo_le (l : List UInt8) : ∀ (n p : Nat) (acc : List UInt8), l.length ≤ n → (∀ e x, strGo l p acc = .error (e, x) → x ≤ p + l.length) ∧ (∀ o q, strGo l p acc = .ok (o, q) → q ≤ p + l.length) := by
  intro n
  induction n generalizing l with
  | zero =>
    intro p acc hl
    cases l with
    | nil => exact ⟨fun e x h => (by rw [strGo] at h; cases h; simp), fun o q h => by rw [strGo] at h; cases h⟩
    | cons c t => simp at hl
  | succ n ih =>
    intro p acc hl
    cases l with
    | nil => exact ⟨fun e x h => (by rw [strGo] at h; cases h; simp), fun o q h => by rw [strGo] at h; cases h⟩
    | cons c t =>
      simp at hl
      rw [strGo.eq_def]
      simp only [List.length_cons]
      split
      · exact ⟨fun e x h => (by cases h), fun o q h => by cases h; omega⟩
      · split
        · exact ⟨fun e x h => (by cases h; omega), fun o q h => by cases h⟩
        · split
          · cases t with
            | nil => exact ⟨fun e x h => (by cases h; simp), fun o q h => by cases h⟩
            | cons d t2 =>
              simp at hl
              simp only [List.length_cons]
              split
              · have := ih t2 (p + 2) (acc ++ [10]) (by omega)
                exact ⟨fun e x h => (by have := this.1 e x h; omega), fun o q h => by have := this.2 o q h; omega⟩
              · split
                · have := ih t2 (p + 2) (acc ++ [d]) (by omega)
                  exact ⟨fun e x h => (by have := this.1 e x h; omega), fun o q h => by have := this.2 o q h; omega⟩
                · exact ⟨fun e x h => (by cases h; omega), fun o q h => by cases h⟩
          · have := ih t (p + 1) (acc ++ [c]) hl
            exact ⟨fun e x h => (by have := this.1 e x h; omega), fun o q h => by have := this.2 o q h; omega⟩
end Go.Proofs.YtdfbjnachakkhaaGreatDoor

namespace Go.Proofs.YtdfbjnachakkhaaGreatDoor
open Go.ChangeShapes Go.WideShapes Go.ChangeAt Go.RowKit
set_option linter.unusedVariables false
def termsV (l : List PTerm) : List Value := l.flatMap termV
theorem termsV_len (l : List PTerm) : (termsV l).length = l.length * 3 := by
  induction l with
  | nil => rfl
  | cons t l ih => simp [termsV, List.flatMap_cons, termV] at ih ⊢; omega
theorem termsV_snoc (l : List PTerm) (t : PTerm) : termsV l ++ termV t = termsV (l ++ [t]) := by simp [termsV]
theorem Box.at (w : World) (g : Nat) (cs : List Value) (t : TypeId) (hg : g = w.heap.size) : Box (w.alloc (.cells cs.toArray t)) g cs := by subst hg; exact Box.new w cs t
theorem Box.set {w : World} {g : Nat} {vs : List Value} (h : Box w g vs) (j : Nat) (old u : Value) (hj : vs[j]? = some old) : Box (w.setCell ⟨g, j, none⟩ u) g (vs.set j u) := by
  constructor
  · intro k v hk
    by_cases e : j = k
    · subst e
      rw [List.getElem?_set_self (List.getElem?_eq_some_iff.1 hj).1] at hk
      cases hk
      exact World.cell?_setCell_same _ _ _ (h.c j old hj)
    · rw [List.getElem?_set_ne e] at hk
      rw [World.cell?_setCell_other _ _ _ _ (by intro g; cases g; exact e rfl)]
      exact h.c k v hk
  · intro k v hk
    rw [World.frozen?_setCell]
    by_cases e : j = k
    · subst e; exact h.f j old hj
    · rw [List.getElem?_set_ne e] at hk; exact h.f k v hk
/-- what an append leaves as it was -/
theorem app_block {w w4 : World} {o1 o2 : Obj} {row : Option Nat} (hg : ((w.alloc o1).alloc o2).grownBy w4 row) {k : Nat} (hk : k < w.heap.size) (hne : some k ≠ row) : w4.heap[k]? = w.heap[k]? := by
  rw [hg.block k (by simp; omega) hne, Below.heap_alloc _ _ _ (by simp; omega), Below.heap_alloc _ _ _ hk]
theorem app_grown {w w2 w4 : World} {o1 o2 : Obj} {b base : Nat} {e : TypeId} {size : Nat} {v : Value} {n : Nat} {xs : List Value} (h : w.grownBy w2 (some b)) (ho : w2.ownsRow base e size v n xs) (hb : w.heap.size ≤ base) (hg : ((w2.alloc o1).alloc o2).grownBy w4 v.ownBlock) : w.grownBy w4 (some b) :=
  fr_own (fr_both (fr_both h (fr_alloc _ _ _)) (fr_alloc _ _ _)) ((ho.alloc _).alloc _) hb hg
theorem own_ne {w : World} {base : Nat} {e : TypeId} {size : Nat} {v : Value} {n : Nat} {xs : List Value} (h : w.ownsRow base e size v n xs) {k : Nat} (hk : k < base) : some k ≠ v.ownBlock := fun g => by have := (own_blk h g.symm).1; omega
end Go.Proofs.YtdfbjnachakkhaaGreatDoor

namespace Go.Proofs.YtdfbjnachakkhaaGreatDoor
open Go.ChangeShapes Go.WideShapes Go.ChangeAt Go.RowKit
set_option linter.unusedVariables false
/-- a part's cells, v its atom's terms -/
def partV (p : PPart) (v : Value) : List Value := [.int .i64 (p.kind : Nat), .string (str p.atom.name), v, .int .i64 (p.atom.place : Nat), .bool p.left.isVar, .string (str p.left.text), .int .i64 (p.left.place : Nat), .bool p.right.isVar, .string (str p.right.text), .int .i64 (p.right.place : Nat)]
def partZ : List Value := [.int .i64 0, .string { data := #[] }, .slice none 0 0, .int .i64 0, .bool false, .string { data := #[] }, .int .i64 0, .bool false, .string { data := #[] }, .int .i64 0]
theorem own_other {w : World} {base : Nat} {e : TypeId} {size : Nat} {v : Value} {n : Nat} {xs : List Value} (h : w.ownsRow base e size v n xs) {R : Nat} (hR : R < base) (j : Nat) (u : Value) : (w.setCell ⟨R, j, none⟩ u).ownsRow base e size v n xs :=
  own_far h (fr_set w R j u) (fun g hg => by have := (own_blk h hg).1; simp; omega)
/-- cells of one block turned one by one -/
def sets (w : World) (R : Nat) : Nat → List Value → World
  | _, [] => w
  | j, v :: vs => sets (w.setCell ⟨R, j, none⟩ v) R (j + 1) vs
theorem fr_sets {a : World} {r : Option Nat} {R : Nat} (hR : a.heap.size ≤ R) (vs : List Value) : ∀ (j : Nat) (b : World), a.grownBy b r → a.grownBy (sets b R j vs) r := by
  induction vs with
  | nil => intro j b h; exact h
  | cons v vs ih => intro j b h; exact ih (j + 1) _ (fr_new h hR j v)
theorem own_sets {base : Nat} {e : TypeId} {size : Nat} {v : Value} {n : Nat} {xs : List Value} {R : Nat} (hR : R < base) (vs : List Value) : ∀ (j : Nat) (w : World), w.ownsRow base e size v n xs → (sets w R j vs).ownsRow base e size v n xs := by
  induction vs with
  | nil => intro j w h; exact h
  | cons u vs ih => intro j w h; exact ih (j + 1) _ (own_other h hR j u)
theorem box_sets_go {R : Nat} (vs : List Value) : ∀ (done old : List Value) (w : World), Box w R (done ++ old) → old.length = vs.length → Box (sets w R done.length vs) R (done ++ vs) := by
  induction vs with
  | nil => intro done old w h hl; cases old with
    | nil => exact h
    | cons o l => simp at hl
  | cons v vs ih =>
    intro done old w h hl
    cases old with
    | nil => simp at hl
    | cons o old =>
      have hset := h.set done.length o v (by simp)
      have e : (done ++ o :: old).set done.length v = (done ++ [v]) ++ old := by simp
      rw [e] at hset
      have := ih (done ++ [v]) old _ hset (by simp at hl; exact hl)
      simp only [List.length_append, List.length_singleton, List.append_assoc, List.singleton_append] at this
      exact this
theorem Box.sets {w : World} {R : Nat} {old : List Value} (h : Box w R old) (vs : List Value) (hl : old.length = vs.length) : Box (sets w R 0 vs) R vs := box_sets_go vs [] old w h hl
/-- the signs of comparisons -/
def cmpS (k : Nat) : List UInt8 := match k with
  | 0 => [61]
  | 1 => [33, 61]
  | _ => [60]
end Go.Proofs.YtdfbjnachakkhaaGreatDoor

namespace Go.Proofs.YtdfbjnachakkhaaGreatDoor
open Go.ChangeShapes Go.WideShapes Go.ChangeAt Go.RowKit
set_option linter.unusedVariables false
def partsV : List PPart → List Value → List Value
  | p :: ps, v :: vs => partV p v ++ partsV ps vs
  | _, _ => []
theorem partsV_snoc (p : PPart) (v : Value) : ∀ (ps : List PPart) (vs : List Value), vs.length = ps.length → partsV ps vs ++ partV p v = partsV (ps ++ [p]) (vs ++ [v]) := by
  intro ps
  induction ps with
  | nil => intro vs h; cases vs with
    | nil => simp [partsV]
    | cons u us => simp at h
  | cons q ps ih => intro vs h; cases vs with
    | nil => simp at h
    | cons u us => simp [partsV, ← ih us (by simpa using h)]
structure PartsAt (tT tP : TypeId) (base : Nat) (w : World) (v : Value) (ps : List PPart) (vs : List Value) : Prop where
  own : w.ownsRow base tP 10 v ps.length (partsV ps vs)
  len : vs.length = ps.length
  args : ∀ (i : Nat) (p : PPart) (u : Value), ps[i]? = some p → vs[i]? = some u → w.ownsRow base tT 3 u p.atom.args.length (termsV p.atom.args)
/-- two rows of other types lie apart -/
theorem kinds_ne {w : World} {b1 b2 n1 n2 s1 s2 : Nat} {e1 e2 : TypeId} {v1 v2 : Value} {xs ys : List Value} (h1 : w.ownsRow b1 e1 s1 v1 n1 xs) (h2 : w.ownsRow b2 e2 s2 v2 n2 ys) (he : e1 ≠ e2) : ∀ g, v1.ownBlock = some g → v2.ownBlock ≠ some g := by
  intro g hg1 hg2
  rcases h1.2 with ⟨rfl, _⟩ | ⟨g1, c1, cur1, rfl, _, hb1, _⟩
  · cases hg1
  · rcases h2.2 with ⟨rfl, _⟩ | ⟨g2, c2, cur2, rfl, _, hb2, _⟩
    · cases hg2
    · cases hg1; cases hg2
      rw [hb1] at hb2
      cases hb2; exact he rfl
theorem PartsAt.nil (tT tP : TypeId) (base : Nat) (w : World) : PartsAt tT tP base w (.slice none 0 0) [] [] := ⟨World.ownsRow_nil _ _ _ _, rfl, fun i p u h => by simp at h⟩
/-- what turns elsewhere leaves parts as they are -/
theorem PartsAt.kept {tT tP : TypeId} {base : Nat} {w w' : World} {v : Value} {ps : List PPart} {vs : List Value} {row : Option Nat} (h : PartsAt tT tP base w v ps vs) (hg : w.grownBy w' row) (hne : ∀ g, row = some g → g < base ∨ w.heap.size ≤ g) : PartsAt tT tP base w' v ps vs :=
  ⟨own_far h.own hg (fun g hv e => by have := own_blk h.own hv; have := hne g e; omega), h.len, fun i p u hp hu => own_far (h.args i p u hp hu) hg (fun g hv e => by have := own_blk (h.args i p u hp hu) hv; have := hne g e; omega)⟩
theorem PartsAt.lower {tT tP : TypeId} {base base' : Nat} {w : World} {v : Value} {ps : List PPart} {vs : List Value} (h : PartsAt tT tP base w v ps vs) (hb : base' ≤ base) : PartsAt tT tP base' w v ps vs :=
  ⟨own_lower h.own hb, h.len, fun i p u hp hu => own_lower (h.args i p u hp hu) hb⟩
/-- one part more -/
theorem PartsAt.push {tT tP : TypeId} (ht : tT ≠ tP) {base : Nat} {w w4 : World} {v v4 u : Value} {ps : List PPart} {vs : List Value} {p : PPart} {o1 o2 : Obj} (h : PartsAt tT tP base w v ps vs) (hu : w.ownsRow base tT 3 u p.atom.args.length (termsV p.atom.args))
    (hg : ((w.alloc o1).alloc o2).grownBy w4 v.ownBlock) (hown : w4.ownsRow base tP 10 v4 (ps.length + 1) (partsV ps vs ++ partV p u)) : PartsAt tT tP base w4 v4 (ps ++ [p]) (vs ++ [u]) := by
  have keep : ∀ (q : PPart) (x : Value), w.ownsRow base tT 3 x q.atom.args.length (termsV q.atom.args) → w4.ownsRow base tT 3 x q.atom.args.length (termsV q.atom.args) := fun q x hx =>
    own_far ((hx.alloc o1).alloc o2) hg (kinds_ne hx h.own ht)
  refine ⟨?_, by simp [h.len], fun i q x hq hx => ?_⟩
  · rw [← partsV_snoc p u ps vs h.len, List.length_append]; exact hown
  · by_cases hi : i < ps.length
    · rw [List.getElem?_append_left hi] at hq
      rw [List.getElem?_append_left (by rw [h.len]; exact hi)] at hx
      exact keep q x (h.args i q x hq hx)
    · rw [List.getElem?_append_right (by omega)] at hq
      rw [List.getElem?_append_right (by rw [h.len]; omega), h.len] at hx
      obtain ⟨k, hk⟩ : ∃ k, i - ps.length = k := ⟨_, rfl⟩
      rw [hk] at hq hx
      match k, hq, hx with
      | 0, hq, hx => simp at hq hx; subst hq hx; exact keep _ _ hu
      | k + 1, hq, _ => simp at hq
end Go.Proofs.YtdfbjnachakkhaaGreatDoor

namespace Go.Proofs.YtdfbjnachakkhaaGreatDoor
open Go.ChangeShapes Go.WideShapes Go.ChangeAt Go.RowKit
set_option linter.unusedVariables false
theorem termsV_at (l : List PTerm) (k j : Nat) (hk : k < l.length) (hj : j < 3) : (termsV l)[k * 3 + j]? = (termV l[k])[j]? := by
  induction l generalizing k with
  | nil => simp at hk
  | cons t l ih =>
    cases k with
    | zero => simp only [termsV, List.flatMap_cons, Nat.zero_mul, Nat.zero_add, List.getElem_cons_zero]; rw [List.getElem?_append_left (by simp [termV]; exact hj)]
    | succ k =>
      simp only [termsV, List.flatMap_cons, List.getElem_cons_succ]
      rw [List.getElem?_append_right (by simp [termV]; omega)]
      have := ih k (by simpa using hk)
      rw [termsV] at this
      rw [← this]
      congr 1
      simp [termV]; omega
theorem add_zero (g j : Nat) : (⟨g, 0, none⟩ : Addr).add j = ⟨g, j, none⟩ := by unfold Addr.add; split <;> simp_all
/-- where a row of terms lies -/
theorem own_terms {w : World} {base : Nat} {e : TypeId} {v : Value} {l : List PTerm} (h : w.ownsRow base e 3 v l.length (termsV l)) : (v = .slice none 0 0 ∧ l = []) ∨ ∃ g cap, v = .slice (some ⟨g, 0, none⟩) l.length cap ∧ base ≤ g ∧ g < w.heap.size ∧ ∀ k (hk : k < l.length), w.cell? ⟨g, k * 3, none⟩ = some (.bool l[k].isVar) ∧ w.cell? ⟨g, k * 3 + 1, none⟩ = some (.string (str l[k].text)) ∧ w.cell? ⟨g, k * 3 + 2, none⟩ = some (.int .i64 (l[k].place : Nat)) := by
  rcases h.2 with ⟨rfl, h0⟩ | ⟨g, cap, cur, rfl, hb, hg, rest⟩
  · exact Or.inl ⟨rfl, List.eq_nil_of_length_eq_zero h0⟩
  · refine Or.inr ⟨g, cap, rfl, hb, (Array.getElem?_eq_some_iff.1 hg).1, fun k hk => ⟨?_, ?_, ?_⟩⟩
    · have := h.cells rfl (k * 3 + 0) _ (by rw [termsV_at l k 0 hk (by omega)]; rfl)
      rw [add_zero] at this; exact this
    · have := h.cells rfl (k * 3 + 1) _ (by rw [termsV_at l k 1 hk (by omega)]; rfl)
      rw [add_zero] at this; exact this
    · have := h.cells rfl (k * 3 + 2) _ (by rw [termsV_at l k 2 hk (by omega)]; rfl)
      rw [add_zero] at this; exact this
end Go.Proofs.YtdfbjnachakkhaaGreatDoor

namespace Go.Proofs.YtdfbjnachakkhaaGreatDoor
open Go.ChangeShapes Go.WideShapes Go.ChangeAt Go.RowKit
set_option linter.unusedVariables false
theorem partsV_at : ∀ (ps : List PPart) (vs : List Value) (k j : Nat) (p : PPart) (v : Value), ps[k]? = some p → vs[k]? = some v → j < 10 → (partsV ps vs)[k * 10 + j]? = (partV p v)[j]? := by
  intro ps
  induction ps with
  | nil => intro vs k j p v h; simp at h
  | cons x ps ih =>
    intro vs k j p v h1 h2 hj
    cases vs with
    | nil => simp at h2
    | cons y vs =>
      cases k with
      | zero => simp at h1 h2; subst h1 h2; simp only [partsV, Nat.zero_mul, Nat.zero_add]; rw [List.getElem?_append_left (by simp [partV]; exact hj)]
      | succ k =>
        simp only [partsV]
        rw [List.getElem?_append_right (by simp [partV]; omega), ← ih vs k j p v (by simpa using h1) (by simpa using h2) hj]
        congr 1
        simp [partV]; omega
/-- a row of one's own may be written -/
theorem own_soft {w : World} {base : Nat} {e : TypeId} {size g n cap : Nat} {xs : List Value} (h : w.ownsRow base e size (.slice (some ⟨g, 0, none⟩) n cap) n xs) (j : Nat) : w.frozen? ⟨g, j, none⟩ = false := by
  rcases h.2 with ⟨hv, _⟩ | ⟨g', cap', cur, hv, hb, hg, hn, hc, hs, ht⟩
  · cases hv
  · cases hv
    unfold World.frozen?
    simp only [hg]
    simp
/-- where parts lie -/
theorem own_parts {tT tP : TypeId} {base : Nat} {w : World} {v : Value} {ps : List PPart} {vs : List Value} (h : PartsAt tT tP base w v ps vs) : (v = .slice none 0 0 ∧ ps = []) ∨ ∃ g cap, v = .slice (some ⟨g, 0, none⟩) ps.length cap ∧ base ≤ g ∧ g < w.heap.size ∧ (∀ k p u, ps[k]? = some p → vs[k]? = some u → ∀ (j : Nat) (x : Value), (partV p u)[j]? = some x → w.cell? ⟨g, k * 10 + j, none⟩ = some x) ∧ ∀ i, w.frozen? ⟨g, i, none⟩ = false := by
  rcases h.own.2 with ⟨rfl, h0⟩ | ⟨g, cap, cur, rfl, hb, hg, rest⟩
  · exact Or.inl ⟨rfl, List.eq_nil_of_length_eq_zero h0⟩
  · refine Or.inr ⟨g, cap, rfl, hb, (Array.getElem?_eq_some_iff.1 hg).1, fun k p u hp hu j x hx => ?_, fun i => own_soft h.own i⟩
    have hj : j < 10 := by
      rcases Nat.lt_or_ge j 10 with h | h
      · exact h
      · rw [List.getElem?_eq_none (by simp [partV]; omega)] at hx; cases hx
    have := h.own.cells rfl (k * 10 + j) x (by rw [partsV_at ps vs k j p u hp hu hj]; exact hx)
    rw [add_zero] at this; exact this
end Go.Proofs.YtdfbjnachakkhaaGreatDoor
