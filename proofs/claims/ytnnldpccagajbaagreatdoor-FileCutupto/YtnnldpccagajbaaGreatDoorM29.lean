import Derived.Test.YtnnldpccagajbaaGreatDoorM28
import Derived.Lib.OwnBridge
import Derived.Lib.AppendIntMem
/-
  Rows sorted by slices.SortFunc, out of the laid contract.
-/
namespace Go.Proofs.YtnnldpccagajbaaGreatDoor
open Go.ChangeShapes Go.WideShapes Go.ChangeAt Go.RowKit
set_option linter.unusedVariables false
/-- a row that lies in w, in another block than blk -/
def RowOK (w : World) (blk m : Nat) (p : Value × List (List UInt8)) : Prop :=
  Strs w p.1 p.2 ∧ p.2.length = m ∧ ∀ b off cap n, p.1 = .slice (some ⟨b, off, none⟩) n cap → b ≠ blk
abbrev RowIn (w : World) (blk m : Nat) : Type := { p : Value × List (List UInt8) // RowOK w blk m p }
def encR {w : World} {blk m : Nat} (x : RowIn w blk m) : Value := x.val.1
def cfR {w : World} {blk m : Nat} (x y : RowIn w blk m) : Int := ordR x.val.2 y.val.2
theorem oneR (w : World) (blk m : Nat) : OneCell (encR (w := w) (blk := blk) (m := m)) := by
  rintro ⟨⟨v, l⟩, ⟨a, cap, hv, _⟩, _⟩
  simp only at hv
  subst hv
  rfl
theorem ltR_iff {w : World} {blk m : Nat} (x y : RowIn w blk m) : ltOf cfR x y = true ↔ ordR x.val.2 y.val.2 = -1 := by
  unfold ltOf cfR
  rcases ordR_tri x.val.2 y.val.2 with h | h | h <;> simp [h]
theorem swoR (w : World) (blk m : Nat) : Sort.SWO (ltOf (cfR (w := w) (blk := blk) (m := m))) where
  irrefl x := by
    rw [Bool.eq_false_iff]; intro h
    rw [ltR_iff, ordR_self] at h; omega
  trans x y z h1 h2 := by
    rw [ltR_iff] at *
    exact ordR_trans _ _ _ h1 h2 (by rw [x.2.2.1, y.2.2.1]) (by rw [y.2.2.1, z.2.2.1])
  ntrans x y z h1 h2 := by
    rw [Bool.eq_false_iff] at *
    intro h3
    rw [ne_eq, ltR_iff] at h1 h2
    rw [ltR_iff] at h3
    have lxy : x.val.2.length = y.val.2.length := by rw [x.2.2.1, y.2.2.1]
    have lyz : y.val.2.length = z.val.2.length := by rw [y.2.2.1, z.2.2.1]
    rcases ordR_tri y.val.2 x.val.2 with h | h | h
    · have := ordR_trans _ _ _ h h3 (by omega) (by omega)
      exact h2 this
    · have e := ordR_eq _ _ lxy.symm h
      rw [← e] at h3; exact h2 h3
    · have := ordR_neg y.val.2 x.val.2
      rw [h] at this; exact h1 this
theorem grown_sorted {α : Type} [Inhabited α] (enc : α → Value) {w : World} {g n : Nat} {os : Array Obj} (d : Array α) : w.grownBy (sortWorld enc w g 0 n d os) (some g) := by
  refine ⟨rfl, rfl, rfl, by simp [sortWorld], fun k hk hne => ?_⟩
  unfold sortWorld
  rw [Sort.heap_grow_old _ _ (by simpa using hk)]
  have : g ≠ k := fun e => hne (by rw [e])
  simp [Sort.putRow, Sort.mapBlock, Sort.ahead, Array.getElem?_modify, this]
theorem strs_sorted {α : Type} [Inhabited α] (enc : α → Value) {w : World} {blk m n : Nat} {os : Array Obj} (d : Array α) {p : Value × List (List UInt8)} (h : RowOK w blk m p) : Strs (sortWorld enc w blk 0 n d os) p.1 p.2 :=
  strs_grown h.1 (grown_sorted enc d) (fun b off cap k e he => by cases he; exact h.2.2 _ _ _ _ e rfl)
theorem cmpR (w : World) (blk m size : Nat) [Inhabited (RowIn w blk m)] (hm : m ≤ 140737488355328) : CmpLays1 Tryz.prog 95 #[] (encR (w := w) (blk := blk) (m := m)) cfR blk 0 size w := by
  intro n os dk _ x y
  refine (scompare_any x.val.1 y.val.1 x.val.2 y.val.2 _ (strs_sorted encR dk x.2) (strs_sorted encR dk y.2) (by rw [x.2.2.1, y.2.2.1]) (by rw [x.2.2.1]; exact hm)).mono ?_
  rintro e w' ⟨rfl, q, rfl⟩
  exact ⟨rfl, q, #[], by rw [Sort.grow_empty]⟩
theorem entersR : ∀ args w, (callFunc 95 args).run Tryz.prog w = .ok (.enter 95 args) w := enters_of Tryz.func95 (by kernel_rfl) rfl
/-- rows sorted, none of them lost -/
theorem sorted_in (base g cap m : Nat) (us : List Value) (L : List (List (List UInt8))) (w : World) [Inhabited (RowIn w g m)]
    (hown : w.ownsRow base 45 1 (.slice (some ⟨g, 0, none⟩) us.length cap) us.length us) (hlen : us.length = L.length) (hl : us.length ≤ 1073741824) (hm : m ≤ 140737488355328)
    (hin : ∀ p ∈ us.zip L, RowOK w g m p) :
    Calls Tryz.prog 94 #[.slice (some ⟨g, 0, none⟩) us.length cap, .func (.func 95) #[] #[]] w fun e w' =>
      e = .returned (.tuple #[]) ∧ (∃ (ps : List (Value × List (List UInt8))), ps.Perm (us.zip L) ∧ (∀ (i j : Nat) (a b : Value × List (List UInt8)), i < j → ps[i]? = some a → ps[j]? = some b → ordR b.2 a.2 ≠ -1)
        ∧ w'.ownsRow base 45 1 (.slice (some ⟨g, 0, none⟩) us.length cap) us.length (ps.map (·.1))) ∧ w.grownBy w' (some g) := by
  have hz : (us.zip L).length = us.length := by rw [List.length_zip]; omega
  obtain ⟨zs, HZ⟩ : ∃ zs : List (RowIn w g m), zs.map (·.val) = us.zip L := ⟨(us.zip L).attach.map fun p => ⟨p.1, hin p.1 p.2⟩, by
    rw [List.map_map]
    conv => rhs; rw [← List.attach_map_subtype_val (us.zip L)]
    rfl⟩
  have hzl : zs.length = us.length := by rw [← hz, ← HZ, List.length_map]
  have hze : zs.map encR = us := by
    have : zs.map encR = (zs.map (·.val)).map (·.1) := by rw [List.map_map]; rfl
    rw [this, HZ]
    exact List.map_fst_zip (by omega)
  have hown2 : w.ownsRow base 45 1 (.slice (some ⟨g, 0, none⟩) us.length cap) us.length (zs.map encR) := by rw [hze]; exact hown
  obtain ⟨g', cap', hv, hbg, hgw, _, _, _, hH⟩ := Lib.holds_of_ownsRow hown2 (by intro h; cases h)
  cases hv
  have hsz : zs.toArray.size = us.length := by simpa using hzl
  have hcon := Tryz.slices_SortFunc encR (oneR w g m) cfR (swoR w g m) 95 #[] g 0 cap zs.toArray w entersR (cmpR w g m _ hm) hH hgw (by rw [hsz]; omega)
  rw [hsz] at hcon
  refine hcon.mono ?_
  rintro e w' ⟨rfl, d', n, os, ⟨hp1, hp2, hp3⟩, hs, rfl⟩
  have hd1 : d'.size = us.length := by rw [hp1, hsz]
  have hperm : d'.toList.Perm zs := by
    have e1 : (d'.extract 0 us.length).toList = d'.toList := by rw [← hd1]; simp
    have e2 : (zs.toArray.extract 0 us.length).toList = zs := by rw [← hsz]; simp
    rw [e1, e2] at hp3; exact hp3
  refine ⟨rfl, ⟨d'.toList.map (·.val), ?_, ?_, ?_⟩, grown_sorted encR d'⟩
  · rw [← HZ]; exact hperm.map _
  · intro i j a b hij ha hb
    rw [List.getElem?_map] at ha hb
    obtain ⟨x, hx, rfl⟩ := Option.map_eq_some_iff.1 ha
    obtain ⟨y, hy, rfl⟩ := Option.map_eq_some_iff.1 hb
    have hi : i < d'.size := by have := (List.getElem?_eq_some_iff.1 hx).1; simpa using this
    have hj : j < d'.size := by have := (List.getElem?_eq_some_iff.1 hy).1; simpa using this
    have := hs i j (Nat.zero_le _) hij (by omega)
    rw [getElem!_pos d' i hi, getElem!_pos d' j hj] at this
    have ex : d'[i] = x := by
      have := (List.getElem?_eq_some_iff.1 hx).2; simpa using this
    have ey : d'[j] = y := by
      have := (List.getElem?_eq_some_iff.1 hy).2; simpa using this
    rw [ex, ey] at this
    intro h
    rw [(ltR_iff y x).2 h] at this
    cases this
  · have ho := Lib.ownsRow_putRow (enc := encR) (q := n) (k := us.length) (ys := d'.toList) hown2 (by simpa using hd1) (Nat.le_refl _)
    have ht : (d'.toList.take us.length).map encR = (d'.toList.map (·.val)).map (·.1) := by
      rw [List.take_of_length_le (by simp; omega), List.map_map]; rfl
    rw [ht] at ho
    have := Lib.ownsRow_grow ho 0 os
    exact this
end Go.Proofs.YtnnldpccagajbaaGreatDoor
