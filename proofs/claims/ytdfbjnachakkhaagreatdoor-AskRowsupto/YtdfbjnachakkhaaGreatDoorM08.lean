import Derived.Test.YtdfbjnachakkhaaGreatDoorM07
import Derived.Deep.AppendLies
import Derived.Deep.RegionLaw
import Derived.Test.YtdfbjnachakkhaaGreatDoorM04
import Derived.Test.YtdfbjnachakkhaaGreatDoorM06
import Derived.StringKeys
import Derived.Shelf.RegionOpen
import Derived.RegionIn
namespace Go.Proofs.YtdfbjnachakkhaaGreatDoor
open Go.ChangeShapes Go.WideShapes Go.ChangeAt Go.RowKit Go.WideMaps Go.Maps
set_option linter.unusedVariables false
set_option maxRecDepth 100000
/-- the map of indexes with one entry -/
def Dix (n im : Nat) : DataW Value := (DataW.map []).put (.int .i64 ((2 ^ n - 1 : Nat) : Int)) (.held (.map (some im)))
theorem Dix_at (n im : Nat) (z : DataW Value) : (Dix n im).atKey (.int .i64 ((2 ^ n - 1 : Nat) : Int)) z = .held (.map (some im)) := atKey_put_same isMap_empty (by simp [WideAt.IsKeyLit]) _ _
theorem Dix_has (n im : Nat) : Maps.has (Dix n im) (.int .i64 ((2 ^ n - 1 : Nat) : Int)) = true := has_put_same isMap_empty (by simp [WideAt.IsKeyLit]) _
theorem Dix_other (n im : Nat) (kl : Lit) (h : kl ≠ .int .i64 ((2 ^ n - 1 : Nat) : Int)) : Maps.has (Dix n im) kl = false := by
  unfold Dix; rw [has_put_other h]; rfl
/-- rows of a relation of n columns -/
def RowsN (n : Nat) (rows : List (List Nat)) : Prop := ∀ a ∈ rows, Row8N a ∧ maskR n a = a
/-- a relation with its index by all columns -/
structure RelB (base R ix im n : Nat) (rows : List (List Nat)) (old now : Nat) (w : World) (vr vu : Value) (DM : DataW Value) (vf : List Nat → Value) : Prop where
  blk : w.heap[R]? = some (.cells (relC n vr vu old now ix) 200 (0, 0))
  rws : w.ownsRow base 193 8 vr rows.length (flatR rows)
  rds : w.ownsRow base 3 1 vu rows.length (List.replicate rows.length (.int .i64 0))
  ixm : w.ownsMap Tryz.prog 244 heldA ix 1 (Dix n im)
  idx : Idx base im rows.length w DM vf (posK n rows rows.length)
  rok : RowsN n rows
  ne : im ≠ ix
  lowR : base ≤ R
  lowX : base ≤ ix
  lowM : base ≤ im
  apart : ∀ a, Row8N a → vu.ownBlock = none ∨ vu.ownBlock ≠ (vf a).ownBlock
theorem RelB.kept {base R ix im n : Nat} {rows : List (List Nat)} {old now : Nat} {w w' : World} {vr vu : Value} {DM : DataW Value} {vf : List Nat → Value} (h : RelB base R ix im n rows old now w vr vu DM vf) {S : Nat → Prop} (hf : FrS S w w') (hR : ¬ S R) (hix : ¬ S ix) (him : ¬ S im) (hc : ∀ g cur e fz, base ≤ g → w.heap[g]? = some (.cells cur e fz) → (e = 193 ∨ e = 3) → ¬ S g) : RelB base R ix im n rows old now w' vr vu DM vf := by
  refine ⟨?_, hf.row h.rws (fun g cur fz hv hg hb => hc g cur _ fz hb hg (.inl rfl)), hf.row h.rds (fun g cur fz hv hg hb => hc g cur _ fz hb hg (.inr rfl)), hf.map h.ixm hix, ?_, h.rok, h.ne, h.lowR, h.lowX, h.lowM, h.apart⟩
  · rw [hf.block R (Array.getElem?_eq_some_iff.1 h.blk).1 hR]; exact h.blk
  · exact ⟨hf.map h.idx.own him, h.idx.at', fun a ha => hf.row (h.idx.rows a ha) (fun g cur fz hv hg hb => hc g cur _ fz hb hg (.inr rfl)), h.idx.apart⟩
theorem RelB.grown {base R ix im n : Nat} {rows : List (List Nat)} {old now : Nat} {w w' : World} {vr vu : Value} {DM : DataW Value} {vf : List Nat → Value} (h : RelB base R ix im n rows old now w vr vu DM vf) (hg : w.grownBy w' none) : RelB base R ix im n rows old now w' vr vu DM vf :=
  h.kept (S := fun _ => False) (FrS.none hg) (fun h => h) (fun h => h) (fun h => h) (fun _ _ _ _ _ _ _ h => h)
theorem posK_none (n : Nat) (rows : List (List Nat)) (a : List Nat) : ∀ k, k ≤ rows.length → (∀ b ∈ rows, maskR n b ≠ a) → posK n rows k a = []
  | 0, _, _ => rfl
  | k + 1, hk, h => by
    have hx : rows.getD k [] ∈ rows := by
      rw [List.getD_eq_getElem?_getD, List.getElem?_eq_getElem (by omega)]; exact List.getElem_mem _
    simp only [posK, updF]
    rw [if_neg (fun e => h _ hx e.symm)]
    exact posK_none n rows a k (by omega) h
theorem posK_more (n : Nat) (rows more : List (List Nat)) : ∀ k, k ≤ rows.length → posK n (rows ++ more) k = posK n rows k
  | 0, _ => rfl
  | k + 1, hk => by
    have e : (rows ++ more).getD k [] = rows.getD k [] := by
      rw [List.getD_eq_getElem?_getD, List.getD_eq_getElem?_getD, List.getElem?_append_left (by omega)]
    rw [posK, posK, e, posK_more n rows more k (by omega)]
theorem infoRowA : (Tryz.prog.info? 193).map (fun i => (i.zero, i.size, i.bytes)) = some (some (.agg #[.int .i64 0, .int .i64 0, .int .i64 0, .int .i64 0, .int .i64 0, .int .i64 0, .int .i64 0, .int .i64 0]), 8, 64) := by kernel_rfl
theorem row8 (a : List Nat) (h : a.length = 8) : ∃ a0 a1 a2 a3 a4 a5 a6 a7, a = [a0, a1, a2, a3, a4, a5, a6, a7] := by
  match a, h with
  | [a0, a1, a2, a3, a4, a5, a6, a7], _ => exact ⟨a0, a1, a2, a3, a4, a5, a6, a7, rfl⟩
theorem relC0 (n : Nat) (vr vu : Value) (old now ix : Nat) : (relC n vr vu old now ix)[0]? = some (.int .i64 (n : Nat)) := rfl
theorem relC1 (n : Nat) (vr vu : Value) (old now ix : Nat) : (relC n vr vu old now ix)[1]? = some vr := rfl
theorem relC2 (n : Nat) (vr vu : Value) (old now ix : Nat) : (relC n vr vu old now ix)[2]? = some vu := rfl
theorem relC3 (n : Nat) (vr vu : Value) (old now ix : Nat) : (relC n vr vu old now ix)[3]? = some (.int .i64 (old : Nat)) := rfl
theorem relC4 (n : Nat) (vr vu : Value) (old now ix : Nat) : (relC n vr vu old now ix)[4]? = some (.int .i64 (now : Nat)) := rfl
theorem relC5 (n : Nat) (vr vu : Value) (old now ix : Nat) : (relC n vr vu old now ix)[5]? = some (.map (some ix)) := rfl
theorem has_none (base R ix im n : Nat) (rows : List (List Nat)) (old now : Nat) (a : List Nat) (w : World) (vr vu : Value) (DM : DataW Value) (vf : List Nat → Value) (h : RelB base R ix im n rows old now w vr vu DM vf) (hn : n ≤ 8) (ha : Row8N a) (hempty : posK n rows rows.length a = []) :
    Calls Tryz.prog 129 #[.pointer (some ⟨R, 0, none⟩), rowV a] w fun e w' => e = .returned (.bool false) ∧ w.grownBy w' none := by
  have h1 := has_any R ix n 1 (Dix n im) base im rows.length DM vf (posK n rows rows.length) a w (cell_of h.blk 0 _ (relC0 _ _ _ _ _ _)) (cell_of h.blk 5 _ (relC5 _ _ _ _ _ _)) hn h.ixm (Dix_at n im _) (Dix_has n im) h.idx ha (by rw [hempty]; exact Nat.zero_le _)
  rw [hempty] at h1
  have e : decide (0 < ([] : List Nat).length) = false := rfl
  rw [e] at h1
  exact h1
theorem blk_set {w : World} {R : Nat} {arr : Array Value} {t : TypeId} {fz : Nat × Nat} (h : w.heap[R]? = some (.cells arr t fz)) (j : Nat) (v : Value) : (w.setCell ⟨R, j, none⟩ v).heap[R]? = some (.cells (arr.setIfInBounds j v) t fz) := by
  unfold World.setCell
  simp only [Array.getElem?_modify, if_true, h, Option.map_some]
  rfl
theorem own_type {w : World} {base : Nat} {e : TypeId} {size : Nat} {v : Value} {n : Nat} {xs : List Value} (h : w.ownsRow base e size v n xs) {g : Nat} (hv : v.ownBlock = some g) : ∃ cur, w.heap[g]? = some (.cells cur e (0, 0)) := by
  rcases h.2 with ⟨rfl, _⟩ | ⟨g', cap, cur, rfl, hbg, hg, _⟩
  · cases hv
  · cases hv; exact ⟨cur, hg⟩
theorem ranges_at {H : Type} {P : Program} {k : TypeId} {R : Value → Option (DataW H × List MemPlace)} {w W : World} {b r n : Nat} {D : DataW H} {left : Lit → Bool} {cnt : Nat} (h : w.ranges P k R b r n D left cnt) (hb : W.heap[b]? = w.heap[b]?) (hr : W.heap[r]? = w.heap[r]?) : W.ranges P k R b r n D left cnt := by
  obtain ⟨es, clock, since, seen, c0, h1, h2, h3, h4, h5, h6⟩ := h
  exact ⟨es, clock, since, seen, c0, hb.trans h1, h2, h3, h4, hr.trans h5, h6⟩
/-- the ways through a region come to one end -/
theorem hold_way {F P : Nat → Nat → World → Prop} {G : Prop} (h1 : (∀ g c w, F g c w → P g c w) → G) (h2 : ∀ g c w, F g c w → P g c w) : G := h1 h2
theorem own_drawn {w : World} {base : Nat} {e : TypeId} {size : Nat} {v : Value} {n : Nat} {xs : List Value} (h : w.ownsRow base e size v n xs) (Z : Obj) : (w.drew.alloc Z).ownsRow base e size v n xs :=
  h.kept (fr_both (fr_draws w 1 none) (fr_alloc _ Z none)) (by cases v.ownBlock <;> simp)
/-- the cells of a block that was laid just now -/
theorem cell_new8 (W : World) (l : List Value) (t : TypeId) (H : Nat) (j : Nat) (u : Value) (hj : l[j]? = some u) (hH : W.heap.size = H := by rfl) : (W.alloc (.cells l.toArray t)).cell? ((⟨H, 0, none⟩ : Addr).add j) = some u := by
  have h1 := heap_alloc_new W (.cells l.toArray t)
  rw [hH] at h1
  have := cell_of h1 j u (by simpa using hj)
  have e : ((⟨H, 0, none⟩ : Addr).add j) = ⟨H, j, none⟩ := by
    by_cases h0 : j = 0
    · subst h0; rfl
    · simp [Addr.add, h0]
  rw [e]; exact this
theorem thaw_of {w : World} {R : Nat} {arr : Array Value} {t : TypeId} (h : w.heap[R]? = some (.cells arr t (0, 0))) (j : Nat) : w.frozen? ⟨R, j, none⟩ = false := by
  unfold World.frozen?
  simp only [h]
  simp
/-- an append turned no block but its own -/
theorem app_blk {w w' : World} {base : Nat} {e : TypeId} {size : Nat} {v : Value} {n : Nat} {xs : List Value} {R : Nat} {arr : Array Value} {t : TypeId} (hb : w.heap[R]? = some (.cells arr t (0, 0))) (ho : w.ownsRow base e size v n xs) {Z : Obj} (hg : (w.drew.alloc Z).grownBy w' v.ownBlock) (ht : t ≠ e := by decide) : w'.heap[R]? = some (.cells arr t (0, 0)) := by
  have hl : R < w.heap.size := (Array.getElem?_eq_some_iff.1 hb).1
  rw [hg.block R (by show R < (w.drew.alloc Z).heap.size; have : (w.drew.alloc Z).heap.size = w.heap.size + 1 := by simp
                     omega) (fun er => by
    rcases ho.2 with ⟨rfl, _⟩ | ⟨g, cap, cur, rfl, _, hgc, _⟩
    · cases er
    · have : R = g := Option.some.inj er
      subst this
      rw [hb] at hgc; injection hgc with hgc; injection hgc with _ h2; exact ht h2)]
  exact ((fr_both (fr_draws w 1 none) (fr_alloc _ Z none)).block R hl (by simp)).trans hb
theorem app_cell {w w' : World} {base : Nat} {e : TypeId} {size : Nat} {v : Value} {n : Nat} {xs : List Value} {R : Nat} {arr : Array Value} {t : TypeId} (hb : w.heap[R]? = some (.cells arr t (0, 0))) (ho : w.ownsRow base e size v n xs) {Z : Obj} (hg : (w.drew.alloc Z).grownBy w' v.ownBlock) (j : Nat) (u : Value) (hu : arr[j]? = some u) (ht : t ≠ e := by decide) : w'.cell? ⟨R, j, none⟩ = some u := cell_of (app_blk hb ho hg ht) j u hu
theorem app_thaw {w w' : World} {base : Nat} {e : TypeId} {size : Nat} {v : Value} {n : Nat} {xs : List Value} {R : Nat} {arr : Array Value} {t : TypeId} (hb : w.heap[R]? = some (.cells arr t (0, 0))) (ho : w.ownsRow base e size v n xs) {Z : Obj} (hg : (w.drew.alloc Z).grownBy w' v.ownBlock) (j : Nat) (u : Value) (hu : arr[j]? = some u) (ht : t ≠ e := by decide) : w'.frozen? ⟨R, j, none⟩ = false := thaw_of (app_blk hb ho hg ht) j
end Go.Proofs.YtdfbjnachakkhaaGreatDoor

namespace Go.Proofs.YtdfbjnachakkhaaGreatDoor
open Go.ChangeShapes Go.WideShapes Go.ChangeAt Go.RowKit Go.Hands Go.WideMaps Go.Maps
set_option linter.unusedVariables false
attribute [local go_sem] Oper.semAt_some
set_option maxRecDepth 100000
theorem zeroAtoms (w : World) : (zeroValue 132).run Tryz.prog w = .ok (.slice none 0 0) w := by kernel_rfl
theorem infoAtom : (Tryz.prog.info? 63).map (fun i => (i.zero, i.size, i.bytes)) = some (some (.agg #[.string { data := #[] }, .slice none 0 0, .int .i64 0]), 3, 48) := by kernel_rfl
theorem rule_any (pa ra : Option Addr) (pn pc rn rc : Nat) (w : World) :
    Calls Tryz.prog 27 #[.agg #[.slice pa pn pc, .slice ra rn rc]] w fun e w' => e = .returned (.agg #[.string { data := #[] }, .slice none 0 0, .int .i64 0, .slice pa pn pc]) ∧ w.grownBy w' none := by
  go_enter Tryz.func27, Tryz.ntmps27
  go_wp2
  refine bodyPost_ret (v := .agg #[.string { data := #[] }, .slice none 0 0, .int .i64 0, .slice pa pn pc]) (by simp [results, Tryz.results27, go_sem]) rfl ⟨rfl, fr_both (fr_alloc _ _ _) (fr_alloc _ _ _)⟩
theorem rnd_of {w w' : World} (h : w.grownBy w' none) (M : Nat → Prop) : Rnd M w w' := ⟨h.os, h.tape, h.output, h.size, fun k hk _ => h.block k hk (by simp)⟩
theorem low_at3 (w : World) (l : Array Value) (t : TypeId) (o1 : Obj) (j : Nat) (v : Value) (hv : l[j]? = some v) {o2 : Obj} : (((w.alloc (.cells l t)).alloc o1).alloc o2).cell? ⟨w.heap.size, j, none⟩ = some v :=
  (FrS.none (S := fun _ => False) (fr_both (fr_alloc (w.alloc (.cells l t)) o1 none) (fr_alloc _ o2 none))).cell (cell_of (heap_alloc_new w (.cells l t)) j v hv) (by simp)
theorem mapAtH {H : Type} {P : Program} {k : TypeId} {R : Value → Option (DataW H × List MemPlace)} {w w' : World} {b n : Nat} {D : DataW H} (h : w.ownsMap P k R b n D) (e : w'.heap[b]? = w.heap[b]?) : w'.ownsMap P k R b n D := by
  obtain ⟨es, clock, hb, r⟩ := h
  exact ⟨es, clock, by rw [e]; exact hb, r⟩
theorem frt_row {Z : Nat → Obj → Prop} {A C : World} (hf : FrT Z A C) {base : Nat} {e : TypeId} {size : Nat} {v : Value} {n : Nat} {xs : List Value} (h : A.ownsRow base e size v n xs) (hz : ∀ g cur fz, v.ownBlock = some g → base ≤ g → ¬ Z g (.cells cur e fz)) : C.ownsRow base e size v n xs :=
  row_kept h (fun g cur fz hv hg => (hf.block g _ hg (hz g cur fz hv (own_blk h hv).1)).trans hg.symm)
theorem frt_map {H : Type} {Z : Nat → Obj → Prop} {A C : World} (hf : FrT Z A C) {P : Program} {k : TypeId} {R : Value → Option (DataW H × List MemPlace)} {b n : Nat} {D : DataW H} (h : A.ownsMap P k R b n D) (hz : ∀ es ck, ¬ Z b (.map es ck)) : C.ownsMap P k R b n D := by
  obtain ⟨es, clock, hb, r⟩ := h
  exact ⟨es, clock, hf.block b _ hb (hz _ _), r⟩
/-- the atoms by their names, where there is one -/
def Dat (name : List UInt8) (v : Value) : DataW Value := (DataW.map []).put (.string name) (.held v)
set_option maxHeartbeats 4000000 in
theorem qatoms_any (base : Nat) (bd rels : Value) (p : PPart) (u : Value) (w : World) (hparts : PartsAt 65 67 base w bd [p] [u]) (ra : Option Addr) (rn rc : Nat) (hk : p.kind = 0) (hname : p.atom.name.length ≤ 1000) :
    Calls Tryz.prog 56 #[.agg #[bd, .slice ra rn rc]] w fun e w' => ∃ am g c, e = .returned (.map (some am)) ∧ w.heap.size ≤ am ∧ w'.ownsMap Tryz.prog 9 heldA am 1 (Dat p.atom.name (.slice (some ⟨g, 0, none⟩) 1 c)) ∧ w'.ownsRow w.heap.size 63 3 (.slice (some ⟨g, 0, none⟩) 1 c) 1 [.string (str p.atom.name), u, .int .i64 (p.atom.place : Nat)] ∧ w.grownBy w' none := by
  have hmm := @run_makeMap Tryz.prog
  have hbd := own_slice hparts.own
  obtain ⟨bda, HBA⟩ : ∃ a, Hid (a = sliceA bd) := ⟨_, rfl⟩
  obtain ⟨bdc, HBC⟩ : ∃ c, Hid (c = sliceC bd) := ⟨_, rfl⟩
  rw [← HBA.out, ← HBC.out] at hbd
  dsimp only [List.length_cons, List.length_nil, Nat.zero_add] at hbd
  have HPS := hide hparts
  have HBD := hide hbd
  clear hparts HBA HBC
  rw [hbd]
  clear hbd
  obtain ⟨W2, HW2⟩ : ∃ W2, Hid (W2 = ((w.alloc (.cells #[.slice bda 1 bdc, .slice ra rn rc] 47)).alloc (.map #[] 0)).alloc (.cells #[.map (some (w.heap.size + 1))] 127)) := ⟨_, rfl⟩
  have HR2 : Hid (Rnd (fun _ => False) w W2) := by rw [HW2.out]; exact (((Rnd.refl _ _).alloc _).alloc _).alloc _
  have HS2 : Hid (W2.heap.size = w.heap.size + 3) := by show _ = _; rw [HW2.out]; simp
  have c2 : W2.cell? ⟨w.heap.size + 1 + 1, 0, none⟩ = some (.map (some (w.heap.size + 1))) := by
    rw [HW2.out, World.cell?_alloc_at _ _ _ _ (by simp)]; rfl
  have c0 : W2.cell? ⟨w.heap.size, 0, none⟩ = some (.slice bda 1 bdc) := by
    rw [HW2.out]; exact low_at3 w _ _ _ 0 _ rfl
  have c1 : W2.cell? ⟨w.heap.size, 1, none⟩ = some (.slice ra rn rc) := by
    rw [HW2.out]; exact low_at3 w _ _ _ 1 _ rfl
  have HM2 : Hid (W2.ownsMap Tryz.prog 9 heldA (w.heap.size + 1) 0 (.map [])) := by
    have h1 := World.ownsMap_made (H := Value) (w.alloc (.cells #[.slice bda 1 bdc, .slice ra rn rc] 47)) Tryz.prog 9 heldA
    rw [World.size_alloc] at h1
    rw [HW2.out]
    exact h1.kept (fr_alloc _ _ none) (by simp)
  have hW2 := HW2.out.symm
  obtain ⟨n, hn1⟩ : ∃ n : Nat, 30 ≤ n := ⟨30, by omega⟩
  refine (callsIn_wide (n := n)).1 ?_
  refine callsIn_of_wp_marks Tryz.func56 rfl trivial ?_ rfl
  simp only [Tryz.ntmps56, List.size_toArray, List.length_cons, List.length_nil, Nat.reduceAdd, Nat.reduceSub, Array.replicate_succ, Array.replicate_zero, List.push_toArray, List.append_toArray, List.nil_append, List.cons_append]
  gi_wp2_with fail
  refine ⟨trivial, fun h => (by cases h), ?_⟩
  refine (callsIn_wide.2 (rule_any bda ra 1 bdc rn rc W2)).mono ?_
  rintro e W3 ⟨rfl, hg3⟩
  have HR23 : Hid (Rnd (fun _ => False) W2 W3) := rnd_of hg3 _
  have HS3 : Hid (W2.heap.size ≤ W3.heap.size) := hg3.size
  clear hg3
  gi_wp2_with fail
  refine ⟨trivial, fun h => (by cases h), ?_⟩
  refine (callsIn_wide.2 (body_any { data := #[] } none 0 0 0 bda 1 bdc W3)).mono ?_
  rintro e W4 ⟨rfl, hW4⟩
  have HW4 := hide hW4
  have HR24 : Hid (Rnd (fun _ => False) W2 W4) := by rw [HW4.out]; exact HR23.out.alloc _
  have HS4 : Hid (W4.heap.size = W3.heap.size + 1) := by show _ = _; rw [HW4.out]; simp
  have b4 : W4.cell? ⟨W3.heap.size, 3, none⟩ = some bd := by rw [HW4.out, HBD.out, World.cell?_alloc_at _ _ _ _ rfl]; rfl
  have HM4 : Hid (W4.ownsMap Tryz.prog 9 heldA (w.heap.size + 1) 0 (.map [])) := mapAtH HM2.out (HR24.out.block _ (by have := HS2.out; omega) (fun h => h))
  have c4 := HR24.out.cell c2 (fun h => h)
  have HR4 : Hid (Rnd (fun _ => False) w W4) := HR2.out.trans HR24.out
  clear hW4 HW4 c0 c1 c2 HM2 hW2
  gi_wp2
  have hsz4 := HS4.out
  have hsz3 := HS3.out
  have hsz2 := HS2.out
  have hgp : ∀ g, bd.ownBlock = some g → g < w.heap.size := fun g hg => (own_blk HPS.out.own hg).2
  have HF4 : Hid (∀ Z, FrT Z w W4) := fun Z => ⟨HR4.out.os, HR4.out.tape, HR4.out.output, HR4.out.size, fun k o hk _ => (HR4.out.block k (lt_of_heap hk) (fun h => h)).trans hk⟩
  refine rangeZ (by omega) (gf := 49) (lb := #[.pointer (some ⟨W3.heap.size, 0, none⟩)]) rfl (enters_of Tryz.func49 (by kernel_rfl) rfl)
    (body_one (n - 1) base W3.heap.size bd p u (fun k o => k = w.heap.size + 1 ∧ ∃ es ck, o = .map es ck) w W4 (HF4.out _) b4 HPS.out (fun o h => by omega) (fun g o hg h => by have := hgp g hg; omega) hk)
    (FrT.refl _ _) (fun k _ h => h.elim) (fun k o h => by obtain ⟨_, es, ck, rfl⟩ := h; exact fun h => h) (fun _ => rfl)
    (fun i W' => W'.cell? ⟨w.heap.size + 1 + 1, 0, none⟩ = some (.map (some (w.heap.size + 1))) ∧ ((i = 0 ∧ W'.ownsMap Tryz.prog 9 heldA (w.heap.size + 1) 0 (.map [])) ∨ (i = 1 ∧ ∃ g c, W'.ownsMap Tryz.prog 9 heldA (w.heap.size + 1) 1 (Dat p.atom.name (.slice (some ⟨g, 0, none⟩) 1 c)) ∧ W'.ownsRow w.heap.size 63 3 (.slice (some ⟨g, 0, none⟩) 1 c) 1 [.string (str p.atom.name), u, .int .i64 (p.atom.place : Nat)])))
    ?low ⟨c4, .inl ⟨rfl, HM4.out⟩⟩ (fun _ _ _ _ _ => trivial)
    (fun x a' W' => ∃ Bx, W'.cell? ⟨Bx, 0, none⟩ = some (.string (str x.name)) ∧ W'.cell? ⟨Bx, 1, none⟩ = some (.slice x.ua x.n x.uc) ∧ W'.cell? ⟨Bx, 2, none⟩ = some (.int .i64 (x.place : Nat)) ∧ a' = { tmps := #[.agg #[.slice bda 1 bdc, .slice ra rn rc], .pointer (some ⟨w.heap.size, 0, none⟩), .map none, .pointer (some ⟨w.heap.size + 1 + 1, 0, none⟩), undef, .pointer (some ⟨Bx, 0, none⟩), .map (some (w.heap.size + 1)), .agg #[.slice bda 1 bdc, .slice ra rn rc], .agg #[.string { data := #[] }, .slice none 0 0, .int .i64 0, .slice bda 1 bdc], .func (.func 49) #[] #[.pointer (some ⟨W3.heap.size, 0, none⟩)], .int .i64 (x.kind : Nat), x.atomV, undef, undef, undef, undef, undef, undef, undef, undef, undef, undef, undef], defers := [] })
    ?hAx ?assign ?body ?done
  case low =>
    rintro i A C ⟨h2, h3⟩ hf
    refine ⟨hf.cell h2 (fun o ho => ?_), ?_⟩
    · rintro (h | ⟨h, _⟩)
      · exact h
      · omega
    · rcases h3 with ⟨h3, h4⟩ | ⟨h3, g, c, h4, h5⟩
      · exact .inl ⟨h3, frt_map hf h4 (fun es ck => by rintro (h | ⟨_, h | h⟩) <;> exact h)⟩
      · exact .inr ⟨h3, g, c, frt_map hf h4 (fun es ck => by rintro (h | ⟨_, h | h⟩) <;> exact h), frt_row hf h5 (fun g cur fz _ _ => by rintro (h | ⟨_, h | h⟩) <;> exact h)⟩
  case hAx =>
    rintro x a' A C ⟨Bx, h0, h1, h2, rfl⟩ hf
    have hz : ∀ (j : Nat) (v : Value), A.cell? ⟨Bx, j, none⟩ = some v → ∀ o, A.heap[Bx]? = some o → ¬ isRec o := by
      intro j v hc o ho hr
      unfold World.cell? at hc
      simp only [ho] at hc
      cases o <;> first | exact hr | simp at hc
    exact ⟨Bx, hf.cell h0 (hz 0 _ h0), hf.cell h1 (hz 1 _ h1), hf.cell h2 (hz 2 _ h2), rfl⟩
  case assign =>
    rintro l' i ⟨xk, xn, xl, xa, xc, xp, xts⟩ W' K hx hi hfx hK
    have HK := hide hK
    clear hK hi
    dsimp only [BX.atomV]
    gi_wp2
    refine HK.out _ _ (FrT.alloc _ _ _) ⟨W'.heap.size, ?_, ?_, ?_, rfl⟩ <;> (rw [World.cell?_alloc_at _ _ _ _ rfl]; rfl)
  case body =>
    rintro l' i x a' W' hx ⟨hcc, hown⟩ _ ⟨Bx, h0, h1, h2, rfl⟩ _
    have hi0 : i = 0 := by
      match i, hx with
      | 0, _ => rfl
    subst hi0
    have hxe : x = bxOf p u := by simpa using hx.symm
    subst hxe
    have hus : u = .slice (sliceA u) p.atom.args.length (sliceC u) := own_slice (HPS.out.args 0 p u rfl rfl)
    have hm0 : W'.ownsMap Tryz.prog 9 heldA (w.heap.size + 1) 0 (.map []) := by
      rcases hown with ⟨_, h⟩ | ⟨h, _⟩
      · exact h
      · cases h
    obtain ⟨ua, HUA⟩ : ∃ ua, Hid (ua = sliceA u) := ⟨sliceA u, (rfl : sliceA u = _)⟩
    obtain ⟨uc, HUC⟩ : ∃ uc, Hid (uc = sliceC u) := ⟨sliceC u, (rfl : sliceC u = _)⟩
    rw [← HUA.out, ← HUC.out] at hus
    have hbxe : bxOf p u = ⟨p.kind, p.atom.name, p.atom.args.length, ua, uc, p.atom.place, p.atom.args⟩ := by rw [HUA.out, HUC.out]; rfl
    rw [hbxe] at h0 h1 h2 ⊢
    dsimp only at h0 h1 h2
    dsimp only [BX.atomV]
    have hkey : keyOf Tryz.prog 9 (.string (str p.atom.name)) = some (.string p.atom.name) := by
      have := keyOf_string_mk Tryz.underlying9 (s := str p.atom.name) (by rw [str_size]; unfold maxLen; omega)
      rw [data_str] at this; exact this
    have HNM := hide hname
    obtain ⟨wA, HWA⟩ : ∃ wA, Hid (wA = W'.drew) := ⟨_, rfl⟩
    obtain ⟨wb, HWB⟩ : ∃ wb, Hid (wb = wA.alloc (.cells #[.string (str p.atom.name), .slice ua p.atom.args.length uc, .int .i64 (p.atom.place : Nat)] 63)) := ⟨_, rfl⟩
    have hGA : W'.grownBy wA none := by rw [HWA.out]; exact fr_draws W' 1 none
    have hGB : W'.grownBy wb none := by rw [HWB.out]; exact fr_both hGA (fr_alloc _ _ _)
    have hfA := FrS.none (S := fun _ => False) hGA
    have hfB := FrS.none (S := fun _ => False) hGB
    have a0 := hfA.cell h0 (fun h => h)
    have a1 := hfA.cell h1 (fun h => h)
    have a2 := hfA.cell h2 (fun h => h)
    have a3 := hfA.cell hcc (fun h => h)
    have b0 := hfB.cell h0 (fun h => h)
    have b1 := hfB.cell h1 (fun h => h)
    have b2 := hfB.cell h2 (fun h => h)
    have b3 := hfB.cell hcc (fun h => h)
    have hlk : ∀ W, W'.grownBy W none → (Instr.lookup 127 (.map (some (w.heap.size + 1))) (.string (str p.atom.name)) false).run Tryz.prog W = .ok (.slice none 0 0) W := by
      intro W hg
      obtain ⟨q, ps, hrun, hq⟩ := (hm0.kept hg (by simp)).lookup keyedS Tryz.underlying127 (zeroAtoms W) (zd := .held (.slice none 0 0)) (zp := []) rfl hkey
      have e := heldA_inv hq
      have e2 : (DataW.map [] : DataW Value).atKey (.string p.atom.name) (.held (.slice none 0 0)) = .held (.slice none 0 0) := rfl
      rw [e2] at e
      injection e with e
      rw [hrun, e]
    have hlA := hlk wA hGA
    have hlB := hlk wb hGB
    obtain ⟨i3, hi, hz0, hz1, hz2⟩ := info_parts infoAtom
    have hbsz : wA.heap.size < wb.heap.size := by rw [HWB.out]; simp
    have hnews : ∀ (j : Nat) (q : Value), [Value.string (str p.atom.name), .slice ua p.atom.args.length uc, .int .i64 (p.atom.place : Nat)][j]? = some q → wb.cell? ((⟨wA.heap.size, 0, none⟩ : Addr).add j) = some q := by
      intro j q hj
      rw [HWB.out]
      exact cell_new8 wA _ _ _ j q hj
    have hwsz : w.heap.size ≤ wb.heap.size := by have := hm0.lt; have := hGB.size; omega
    obtain ⟨g2, cp2, w2, hap, hown2, hg2, _, _⟩ := run_append_lies (P := Tryz.prog) wb 132 132 w.heap.size 63 i3 (.agg #[.string { data := #[] }, .slice none 0 0, .int .i64 0]) 3 48 Tryz.underlying132 hi hz0 hz1 hz2 rfl (by decide) (.slice none 0 0) 0 [] (World.ownsRow_nil _ _ _ _) ⟨wA.heap.size, 0, none⟩ 1 1 [.string (str p.atom.name), .slice ua p.atom.args.length uc, .int .i64 (p.atom.place : Nat)] rfl hnews (fun q hq => by simp at hq; rcases hq with rfl | rfl | rfl <;> rfl) (by decide) (by unfold maxLen; omega) (by omega) hwsz _ rfl
    rw [Nat.zero_add] at hap hown2
    have hg2' : wb.grownBy w2 none := hg2
    obtain ⟨w3, hup, hown3, hg3⟩ := ((hm0.kept hGB (by simp)).kept hg2' (by simp)).update keyedS Tryz.underlying127 (by unfold maxLen; omega) hkey (val := .slice (some ⟨g2, 0, none⟩) 1 cp2) (rfl : heldA (.slice (some ⟨g2, 0, none⟩) 1 cp2) = some (.held (.slice (some ⟨g2, 0, none⟩) 1 cp2), []))
    have HI3 : Hid (w3.cell? ⟨w.heap.size + 1 + 1, 0, none⟩ = some (.map (some (w.heap.size + 1))) ∧ ((1 = 0 ∧ w3.ownsMap Tryz.prog 9 heldA (w.heap.size + 1) 0 (.map [])) ∨ (1 = 1 ∧ ∃ g c, w3.ownsMap Tryz.prog 9 heldA (w.heap.size + 1) 1 (Dat p.atom.name (.slice (some ⟨g, 0, none⟩) 1 c)) ∧ w3.ownsRow w.heap.size 63 3 (.slice (some ⟨g, 0, none⟩) 1 c) 1 [.string (str p.atom.name), u, .int .i64 (p.atom.place : Nat)]))) := by
      have hf3 := FrS.of (S := fun k => k = w.heap.size + 1) hg3 (fun g e => .inl (Option.some.inj e).symm)
      refine ⟨hf3.cell ((FrS.none (S := fun _ => False) hg2').cell b3 (fun h => h)) (by show ¬ w.heap.size + 1 + 1 = w.heap.size + 1; omega), .inr ⟨rfl, g2, cp2, hown3, ?_⟩⟩
      rw [hus]
      refine hf3.row hown2 (fun g cur fz _ hg _ e => ?_)
      obtain ⟨es, ck, hq, _⟩ := (hm0.kept hGB (by simp)).kept hg2' (by simp)
      rw [show g = w.heap.size + 1 from e, hq] at hg; cases hg
    have HF3 : Hid (FrT (fun k o => k = w.heap.size + 1 ∧ ∃ es ck, o = .map es ck) W' w3) := by
      refine (FrT.none (fr_both hGB hg2')).trans (FrT.grown hg3 (fun k o e hk => ?_))
      have e' : k = w.heap.size + 1 := (Option.some.inj e).symm
      obtain ⟨es, ck, hq, _⟩ := (hm0.kept hGB (by simp)).kept hg2' (by simp)
      subst e'
      rw [hq] at hk
      exact ⟨rfl, es, ck, (Option.some.inj hk).symm⟩
    have hf2 := FrS.none (S := fun _ => False) hg2'
    have HC2 := hide (And.intro (hf2.cell b0 (fun h => h)) (And.intro (hf2.cell b1 (fun h => h)) (And.intro (hf2.cell b2 (fun h => h)) (hf2.cell b3 (fun h => h)))))
    have hf3 := FrS.of (S := fun k => k = w.heap.size + 1) hg3 (fun g e => .inl (Option.some.inj e).symm)
    have hnB : ¬ Bx = w.heap.size + 1 := by
      intro e
      obtain ⟨es, ck, hq, _⟩ := hm0
      rw [e] at h0
      unfold World.cell? at h0
      simp [hq] at h0
    have HC3 := hide (And.intro (hf3.cell (hf2.cell b0 (fun h => h)) hnB) (And.intro (hf3.cell (hf2.cell b1 (fun h => h)) hnB) (And.intro (hf3.cell (hf2.cell b2 (fun h => h)) hnB) (hf3.cell (hf2.cell b3 (fun h => h)) (by show ¬ w.heap.size + 1 + 1 = w.heap.size + 1; omega)))))
    have hmx : Tryz.prog.follows .mixedOrders = true := by kernel_rfl
    have hwAe := HWA.out.symm
    have hwBe := HWB.out.symm
    clear hf3 hnB hown hm0 hnews hlk hGA hGB hfA hfB hf2 hown2 hg2 hg2' hown3 hg3 hus hbxe
    generalize str p.atom.name = sn at *
    generalize p.atom.args.length = an at *
    generalize p.atom.place = ap at *
    have HS : (fun W : World => W.cell? ⟨Bx, 0, none⟩ = some (.string sn) ∧ W.cell? ⟨Bx, 1, none⟩ = some (.slice ua an uc) ∧ W.cell? ⟨Bx, 2, none⟩ = some (.int .i64 (ap : Nat)) ∧ W.cell? ⟨w.heap.size + 1 + 1, 0, none⟩ = some (.map (some (w.heap.size + 1)))) wA := ⟨a0, a1, a2, a3⟩
    have HSB : (fun W : World => W.cell? ⟨Bx, 0, none⟩ = some (.string sn) ∧ W.cell? ⟨Bx, 1, none⟩ = some (.slice ua an uc) ∧ W.cell? ⟨Bx, 2, none⟩ = some (.int .i64 (ap : Nat)) ∧ W.cell? ⟨w.heap.size + 1 + 1, 0, none⟩ = some (.map (some (w.heap.size + 1)))) wb := ⟨b0, b1, b2, b3⟩
    have HS2W : (fun W : World => W.cell? ⟨Bx, 0, none⟩ = some (.string sn) ∧ W.cell? ⟨Bx, 1, none⟩ = some (.slice ua an uc) ∧ W.cell? ⟨Bx, 2, none⟩ = some (.int .i64 (ap : Nat)) ∧ W.cell? ⟨w.heap.size + 1 + 1, 0, none⟩ = some (.map (some (w.heap.size + 1)))) w2 := HC2.out
    have HS3W : (fun W : World => W.cell? ⟨Bx, 0, none⟩ = some (.string sn) ∧ W.cell? ⟨Bx, 1, none⟩ = some (.slice ua an uc) ∧ W.cell? ⟨Bx, 2, none⟩ = some (.int .i64 (ap : Nat)) ∧ W.cell? ⟨w.heap.size + 1 + 1, 0, none⟩ = some (.map (some (w.heap.size + 1)))) w3 := HC3.out
    gi_wp2_with fail
    refine region_round (fun W : World => W.cell? ⟨Bx, 0, none⟩ = some (.string sn) ∧ W.cell? ⟨Bx, 1, none⟩ = some (.slice ua an uc) ∧ W.cell? ⟨Bx, 2, none⟩ = some (.int .i64 (ap : Nat)) ∧ W.cell? ⟨w.heap.size + 1 + 1, 0, none⟩ = some (.map (some (w.heap.size + 1)))) (fun a' w' => w' = w3) hmx (by kernel_rfl) ?reg ?rest
    case reg =>
      rw [hwAe]
      refine wpAnyH_take (i := 0) (v := .map (some (w.heap.size + 1))) rfl (by kernel_rfl) (by kernel_rfl) (by kernel_rfl) (fun _ _ _ h => (by cases h.1)) (Or.inl ⟨by rfl, fun W hSW => ?_⟩) HS ?_
      · obtain ⟨s0, s1, s2, s3⟩ := hSW
        go_simp
      try simp only [Act.put, List.setIfInBounds_toArray]
      refine wpAnyH_take (i := 1) (v := .pointer (some ⟨Bx, 0, none⟩)) rfl (by kernel_rfl) (by kernel_rfl) (by kernel_rfl) (fun _ _ _ h => (by cases h.1)) (Or.inl ⟨by rfl, fun W hSW => ?_⟩) HS ?_
      · obtain ⟨s0, s1, s2, s3⟩ := hSW
        go_simp
      try simp only [Act.put]
      refine wpAnyH_take (i := 2) (v := .string sn) rfl (by kernel_rfl) (by kernel_rfl) (by kernel_rfl) (fun _ _ _ h => (by cases h.1)) (Or.inl ⟨by rfl, fun W hSW => ?_⟩) HS ?_
      · obtain ⟨s0, s1, s2, s3⟩ := hSW
        go_simp
      try simp only [Act.put]
      refine wpAnyH_take (i := 3) (v := .map (some (w.heap.size + 1))) rfl (by kernel_rfl) (by kernel_rfl) (by kernel_rfl) (fun _ _ _ h => (by cases h.1)) (Or.inl ⟨by rfl, fun W hSW => ?_⟩) HS ?_
      · obtain ⟨s0, s1, s2, s3⟩ := hSW
        go_simp
      try simp only [Act.put]
      refine wpAnyH_take (i := 4) (v := .pointer (some ⟨Bx, 0, none⟩)) rfl (by kernel_rfl) (by kernel_rfl) (by kernel_rfl) (fun _ _ _ h => (by cases h.1)) (Or.inl ⟨by rfl, fun W hSW => ?_⟩) HS ?_
      · obtain ⟨s0, s1, s2, s3⟩ := hSW
        go_simp
      try simp only [Act.put]
      refine wpAnyH_take (i := 5) (v := .string sn) rfl (by kernel_rfl) (by kernel_rfl) (by kernel_rfl) (fun _ _ _ h => (by cases h.1)) (Or.inl ⟨by rfl, fun W hSW => ?_⟩) HS ?_
      · obtain ⟨s0, s1, s2, s3⟩ := hSW
        go_simp
      try simp only [Act.put]
      refine wpAnyH_take (i := 7) (v := .agg #[.string sn, .slice ua an uc, .int .i64 (ap : Nat)]) rfl (by kernel_rfl) (by kernel_rfl) (by kernel_rfl) (fun _ _ _ h => (by cases h.1)) (Or.inl ⟨by rfl, fun W hSW => ?_⟩) HS ?_
      · obtain ⟨s0, s1, s2, s3⟩ := hSW
        go_simp
      try simp only [Act.put]
      refine wpAnyH_ready (rs := [6, 8]) (by kernel_rfl) (by simp) (AllReadyH.cons rfl (fun K hK => ?_) (AllReadyH.cons rfl (fun K hK => ?_) AllReadyH.nil))
      · go_simp
        refine hK.out _ _ HS (fun _ => ?_)
        clear hK K
        refine wpAnyH_ready (rs := [8]) (by kernel_rfl) (by simp) (AllReadyH.cons rfl (fun K hK => ?_) AllReadyH.nil)
        go_simp
        refine hK.out _ _ HSB (fun _ => ?_)
        clear hK K
        refine wpAnyH_ready (rs := [9]) (by kernel_rfl) (by simp) (AllReadyH.cons rfl (fun K hK => ?_) AllReadyH.nil)
        refine step_append_run rfl _ _ _ rfl rfl rfl hap (hK.out _ _ HS2W (fun _ => ?_))
        simp only [Act.put, List.setIfInBounds_toArray]
        clear hK K
        refine wpAnyH_ready (rs := [10]) (by kernel_rfl) (by simp) (AllReadyH.cons rfl (fun K hK => ?_) AllReadyH.nil)
        go_simp
        refine hK.out _ _ HS3W (fun _ => ?_)
        exact wpAnyH_done (by kernel_rfl) ⟨rfl, rfl⟩ _
      · go_simp
        refine hK.out _ _ HSB (fun _ => ?_)
        clear hK K
        refine wpAnyH_ready (rs := [6]) (by kernel_rfl) (by simp) (AllReadyH.cons rfl (fun K hK => ?_) AllReadyH.nil)
        go_simp
        refine hK.out _ _ HSB (fun _ => ?_)
        clear hK K
        refine wpAnyH_ready (rs := [9]) (by kernel_rfl) (by simp) (AllReadyH.cons rfl (fun K hK => ?_) AllReadyH.nil)
        refine step_append_run rfl _ _ _ rfl rfl rfl hap (hK.out _ _ HS2W (fun _ => ?_))
        simp only [Act.put, List.setIfInBounds_toArray]
        clear hK K
        refine wpAnyH_ready (rs := [10]) (by kernel_rfl) (by simp) (AllReadyH.cons rfl (fun K hK => ?_) AllReadyH.nil)
        go_simp
        refine hK.out _ _ HS3W (fun _ => ?_)
        exact wpAnyH_done (by kernel_rfl) ⟨rfl, rfl⟩ _
    case rest =>
      rintro a4 w4 rfl
      refine ⟨rfl, ?_, HF3.out⟩
      obtain ⟨z1, z2⟩ := HI3.out
      exact ⟨z1, z2.imp (fun h => ⟨h.1, h.2⟩) (fun h => ⟨rfl, h.2⟩)⟩
  case done =>
    rintro D W' hD ⟨hcc, hown⟩ hd hfr
    gi_wp2
    refine ⟨by simp, .inl ⟨_, _, rfl, run_takeDeferred hd, ?_⟩⟩
    have hDW : w.heap.size ≤ D := by omega
    rcases hown with ⟨h, _⟩ | ⟨_, g, c, hm3, hr3⟩
    · cases h
    · have hf : FrT (fun k o => isRec o) W' (W'.putObj D (.deferred none)) := FrT.put W' D _ (fun o ho => by rw [hd] at ho; cases ho; trivial)
      refine ⟨_, results_tmp rfl _ _ _, w.heap.size + 1, g, c, rfl, Nat.le_succ _, frt_map hf hm3 (fun es ck h => h), frt_row hf hr3 (fun g cur fz _ _ h => h), ?_⟩
      refine ⟨hfr.os.trans HR4.out.os, hfr.tape.trans HR4.out.tape, hfr.output.trans HR4.out.output, ?_, fun k hk _ => ?_⟩
      · have := hfr.size; simp; omega
      · rw [World.putObj_heap_other (by omega)]
        have h1 : w.heap[k]? = some w.heap[k] := Array.getElem?_eq_getElem hk
        rw [h1]
        refine hfr.block k _ ((HR4.out.block k hk (fun h => h)).trans h1) ?_
        rintro ((h | ⟨h, _⟩) | ⟨h, _⟩)
        · exact h
        · omega
        · omega
end Go.Proofs.YtdfbjnachakkhaaGreatDoor
