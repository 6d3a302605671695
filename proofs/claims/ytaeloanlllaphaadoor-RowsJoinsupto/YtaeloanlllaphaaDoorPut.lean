/-
  The document's put, walked.
-/
import Derived.Test.YtaeloanlllaphaaDoorPlace
import Derived.Maps.AppendAt
namespace Go.Proofs.YtaeloanlllaphaaDoor
open Go.ChangeShapes Go.WideShapes Go.ChangeAt Go.RowKit
set_option linter.unusedVariables false
theorem own_set {w : World} {base : Nat} {e : TypeId} {g n cap : Nat} {xs : List Value} (h : w.ownsRow base e 1 (.slice (some ⟨g, 0, none⟩) n cap) n xs) (j : Nat) (u : Value) :
    (w.setCell ⟨g, j, none⟩ u).ownsRow base e 1 (.slice (some ⟨g, 0, none⟩) n cap) n (xs.set j u) := by
  refine ⟨by rw [List.length_set]; exact h.1, ?_⟩
  rcases h.2 with ⟨hv, _⟩ | ⟨g', cap', cur, hv, hb, hg, hn, hc, hs, ht⟩
  · cases hv
  · cases hv
    refine Or.inr ⟨g, cap, cur.setIfInBounds j u, rfl, hb, ?_, hn, hc, by simpa using hs, ?_⟩
    · simp only [World.setCell, Array.getElem?_modify, ↓reduceIte, hg, Option.map_some]; rfl
    · rw [Array.toList_setIfInBounds, List.take_set, ht]
theorem own_thaw {w : World} {base : Nat} {e : TypeId} {g n cap : Nat} {xs : List Value} (h : w.ownsRow base e 1 (.slice (some ⟨g, 0, none⟩) n cap) n xs) (j : Nat) : w.frozen? ⟨g, j, none⟩ = false := by
  rcases h.2 with ⟨hv, _⟩ | ⟨g', cap', cur, hv, hb, hg, hn, hc, hs, ht⟩
  · cases hv
  · cases hv
    unfold World.frozen?
    simp only [hg]
    simp
theorem own_vals {w : World} {base : Nat} {e : TypeId} {v : Value} {vs : List Value} {n : Nat} (h : w.ownsRow base e 1 v n vs) : Vals w v vs := by
  have h1 := h.1
  rw [Nat.mul_one] at h1
  subst h1
  rcases h.2 with ⟨rfl, h0⟩ | ⟨g, cap, cur, rfl, hb, hg, hn, hc, hs, ht⟩
  · exact ⟨none, 0, by rw [h0], Or.inl ⟨List.eq_nil_of_length_eq_zero h0, fun _ => rfl⟩⟩
  · refine ⟨some ⟨g, 0, none⟩, cap, rfl, Or.inr ⟨g, 0, rfl, fun i x hx => ?_⟩⟩
    have := h.cells (g := g) rfl i _ hx
    rw [show (⟨g, 0, none⟩ : Addr).add i = ⟨g, i, none⟩ from by unfold Addr.add; split <;> simp_all] at this
    rw [Nat.zero_add]; exact this
theorem infoRow : (Tryd.prog.info? 33).map (fun i => (i.zero, i.size, i.bytes)) = some (some (.slice none 0 0), 1, 24) := by kernel_rfl
theorem own_kept2 {w : World} {base : Nat} {e : TypeId} {size : Nat} {v : Value} {n : Nat} {xs : List Value} (h : w.ownsRow base e size v n xs) (m : Nat) : (w.drewN m).ownsRow base e size v n xs := by
  refine h.kept (row := none) ⟨rfl, rfl, rfl, Nat.le_refl _, fun _ _ _ => rfl⟩ ?_
  cases v.ownBlock with
  | none => exact Or.inl rfl
  | some g => exact Or.inr (by simp)
/-- one block alone may have been written, and blocks may be new -/
theorem grown_draws {w : World} {row : Option Nat} (n : Nat) : w.grownBy (w.drewN n) row := ⟨rfl, rfl, rfl, Nat.le_refl _, fun _ _ _ => rfl⟩
theorem grown_trans {a b c : World} {r s : Option Nat} (h : a.grownBy b r) (k : b.grownBy c s) (hs : ∀ g, s = some g → s = r ∨ a.heap.size ≤ g) : a.grownBy c r :=
  ⟨k.os.trans h.os, k.tape.trans h.tape, k.output.trans h.output, Nat.le_trans h.size k.size, fun i hi hne => by
    rw [k.block i (Nat.lt_of_lt_of_le hi h.size) (fun e => by
      rcases hs i e.symm with e2 | e2
      · exact hne (by rw [e, e2])
      · omega)]
    exact h.block i hi hne⟩
theorem grown_alloc {w : World} (o : Obj) (r : Option Nat) : w.grownBy (w.alloc o) r := ⟨rfl, rfl, rfl, by simp, fun k hk _ => Below.heap_alloc _ _ _ hk⟩
theorem grown_set {w : World} {g j : Nat} (u : Value) : w.grownBy (w.setCell ⟨g, j, none⟩ u) (some g) := ⟨rfl, rfl, rfl, by simp [World.setCell], fun k hk hne => Below.heap_setCell _ _ _ _ (fun e => hne (by rw [e]))⟩
theorem strs_grown {w w' : World} {v : Value} {l : List (List UInt8)} {row : Option Nat} (h : Strs w v l) (hg : w.grownBy w' row) (hne : ∀ b off cap n, v = .slice (some ⟨b, off, none⟩) n cap → some b ≠ row) : Strs w' v l := by
  obtain ⟨a, cap, rfl, hl⟩ := h
  refine ⟨a, cap, rfl, ?_⟩
  rcases hl with hl | ⟨b, off, rfl, hc⟩
  · exact Or.inl hl
  · exact Or.inr ⟨b, off, rfl, fun i x hx => hg.cell (hc i x hx) (hne b off cap _ rfl)⟩
theorem step_list (vs : List Value) (j : Nat) (c : Value) (hj : j < vs.length) : (vs.take (j + 1) ++ c :: vs.drop (j + 1)).set (j + 1) vs[j] = vs.take j ++ vs[j] :: vs.drop j := by
  have h1 : (vs.take (j + 1)).length = j + 1 := by simp; omega
  have h2 : vs.take (j + 1) = vs.take j ++ [vs[j]] := List.take_succ_eq_append_getElem hj
  have h3 : vs.drop j = vs[j] :: vs.drop (j + 1) := List.drop_eq_getElem_cons hj
  rw [List.set_append_right _ _ (by omega), h1, Nat.sub_self, List.set_cons_zero, h2, List.append_assoc]
  congr 1
  show vs[j] :: (vs[j] :: vs.drop (j + 1)) = vs[j] :: vs.drop j
  rw [← h3]
theorem at_gap (vs : List Value) (k : Nat) (c : Value) (hl : k ≤ vs.length) : (vs.take k ++ c :: vs.drop k)[k]? = some c := by
  have h1 : (vs.take k).length = k := by simp; omega
  rw [List.getElem?_append_right (by omega), h1, Nat.sub_self]; rfl
theorem below_gap (vs : List Value) (k j : Nat) (c : Value) (hj : j < k) (hl : k ≤ vs.length) : (vs.take k ++ c :: vs.drop k)[j]? = some (vs[j]'(by omega)) := by
  rw [List.getElem?_append_left (by simp; omega), List.getElem?_take_of_lt hj, List.getElem?_eq_getElem]
/-- a value put where its row belongs -/
def insV (vs : List Value) (L : List (List (List UInt8))) (r : List (List UInt8)) (x : Value) : List Value := if r ∈ L then vs else vs.take (ahead L r) ++ x :: vs.drop (ahead L r)
theorem ahead_le (L : List (List (List UInt8))) (r : List (List UInt8)) : ahead L r ≤ L.length := by
  unfold ahead; exact (List.takeWhile_sublist _).length_le
end Go.Proofs.YtaeloanlllaphaaDoor
