import Derived.Ground.SlsfProg
import Derived.Shelf.SlSortCmp.Whole1
import Derived.Shelf.SlSortCmp.NoneTotal
import Derived.Test.YtdfbjnachakkhaaGreatDoorProg
import Derived.Test.YtdfbjnachakkhaaGreatDoorM27
import Derived.Lib.OwnBridge
import Derived.Lib.AppendIntMem
import Derived.Test.YtdfbjnachakkhaaGreatDoorM11
import Derived.Test.YtdfbjnachakkhaaGreatDoorM01
namespace Go.Proofs
open Go.Shelf
def Tryz.laysSlF6_f74_ren : Go.Shelf.Ren := ⟨fun | 6 => 74 | 15 => 113 | 14 => 112 | 28 => 161 | 29 => 162 | 20 => 153 | 21 => 154 | 22 => 155 | 23 => 156 | 24 => 157 | 25 => 158 | 26 => 159 | 27 => 160 | 46 => 192 | 47 => 193 | 48 => 194 | 49 => 195 | 50 => 196 | 57 => 204 | n => n, fun | 22 => 22 | 24 => 28 | 25 => 105 | 3 => 3 | 39 => 219 | 0 => 0 | 53 => 279 | 55 => 281 | 4 => 4 | 46 => 273 | 45 => 272 | 50 => 55 | 5 => 5 | 9 => 9 | 66 => 310 | 70 => 314 | 76 => 323 | 77 => 324 | n => n, fun | n => n⟩
theorem Tryz.laysSlF6_f74 : Go.Proofs.SlLaysF.n6 Tryz.prog Tryz.laysSlF6_f74_ren := {
  mixed := by kernel_rfl
  f6 := ⟨Tryz.f74.name, by decide, Tryz.func74.trans (congrArg some (by kernel_rfl))⟩
  f14 := ⟨Tryz.f112.name, by decide, Tryz.func112.trans (congrArg some (by kernel_rfl))⟩
  f15 := Tryz.func113.trans (congrArg some (by kernel_rfl))
  f20 := ⟨Tryz.f153.name, by decide, Tryz.func153.trans (congrArg some (by kernel_rfl))⟩
  f21 := ⟨Tryz.f154.name, by decide, Tryz.func154.trans (congrArg some (by kernel_rfl))⟩
  f22 := ⟨Tryz.f155.name, by decide, Tryz.func155.trans (congrArg some (by kernel_rfl))⟩
  f23 := ⟨Tryz.f156.name, by decide, Tryz.func156.trans (congrArg some (by kernel_rfl))⟩
  f24 := ⟨Tryz.f157.name, by decide, Tryz.func157.trans (congrArg some (by kernel_rfl))⟩
  f25 := ⟨Tryz.f158.name, by decide, Tryz.func158.trans (congrArg some (by kernel_rfl))⟩
  f26 := ⟨Tryz.f159.name, by decide, Tryz.func159.trans (congrArg some (by kernel_rfl))⟩
  f27 := ⟨Tryz.f160.name, by decide, Tryz.func160.trans (congrArg some (by kernel_rfl))⟩
  f28 := Tryz.func161.trans (congrArg some (by kernel_rfl))
  f29 := Tryz.func162.trans (congrArg some (by kernel_rfl))
  f46 := ⟨Tryz.f192.name, by decide, Tryz.func192.trans (congrArg some (by kernel_rfl))⟩
  f47 := Tryz.func193.trans (congrArg some (by kernel_rfl))
  f48 := Tryz.func194.trans (congrArg some (by kernel_rfl))
  f49 := ⟨Tryz.f195.name, by decide, Tryz.func195.trans (congrArg some (by kernel_rfl))⟩
  f50 := ⟨Tryz.f196.name, by decide, Tryz.func196.trans (congrArg some (by kernel_rfl))⟩
  f57 := ⟨Tryz.f204.name, by decide, Tryz.func204.trans (congrArg some (by kernel_rfl))⟩
  t0 := Tryz.underlying0
  a0 := Tryz.isAgg0
  z0 := Tryz.sizeOf0
  v0 := Tryz.zeroValue0
  t3 := Tryz.underlying3
  a3 := Tryz.isAgg3
  z3 := Tryz.sizeOf3
  v3 := Tryz.zeroValue3
  t4 := Tryz.underlying4
  a4 := Tryz.isAgg4
  z4 := Tryz.sizeOf4
  v4 := Tryz.zeroValue4
  t5 := Tryz.underlying5
  a5 := Tryz.isAgg5
  z5 := Tryz.sizeOf5
  v5 := Tryz.zeroValue5
  t9 := Tryz.underlying9
  a9 := Tryz.isAgg9
  z9 := Tryz.sizeOf9
  v9 := Tryz.zeroValue9
  t22 := Tryz.underlying22
  a22 := Tryz.isAgg22
  z22 := Tryz.sizeOf22
  v22 := Tryz.zeroValue22
  a24 := Tryz.isAgg28
  z24 := Tryz.sizeOf28
  t25 := Tryz.underlying105
  a25 := Tryz.isAgg105
  z25 := Tryz.sizeOf105
  v25 := Tryz.zeroValue105
  t39 := Tryz.underlying219
  a39 := Tryz.isAgg219
  z39 := Tryz.sizeOf219
  v39 := Tryz.zeroValue219
  t45 := Tryz.underlying272
  a45 := Tryz.isAgg272
  z45 := Tryz.sizeOf272
  v45 := Tryz.zeroValue272
  t46 := Tryz.underlying273
  a46 := Tryz.isAgg273
  z46 := Tryz.sizeOf273
  v46 := Tryz.zeroValue273
  t50 := Tryz.underlying55
  a50 := Tryz.isAgg55
  z50 := Tryz.sizeOf55
  v50 := Tryz.zeroValue55
  t53 := Tryz.underlying279
  a53 := Tryz.isAgg279
  z53 := Tryz.sizeOf279
  v53 := Tryz.zeroValue279
  t55 := Tryz.underlying281
  a55 := Tryz.isAgg281
  z55 := Tryz.sizeOf281
  v55 := Tryz.zeroValue281
  t66 := Tryz.underlying310
  a66 := Tryz.isAgg310
  z66 := Tryz.sizeOf310
  v66 := Tryz.zeroValue310
  t70 := Tryz.underlying314
  a70 := Tryz.isAgg314
  z70 := Tryz.sizeOf314
  v70 := Tryz.zeroValue314
  t76 := Tryz.underlying323
  a76 := Tryz.isAgg323
  z76 := Tryz.sizeOf323
  v76 := Tryz.zeroValue323
  t77 := Tryz.underlying324
  a77 := Tryz.isAgg324
  z77 := Tryz.sizeOf324
  v77 := Tryz.zeroValue324 }

open Go.RowKit Go.Lib Go.Sort in
theorem Tryz.slices_SortFunc {α : Type} [Inhabited α] (enc : α → Value) (h1 : OneCell enc) (cf : α → α → Int) (hO : SWO (ltOf cf)) (g : Nat) (cb : Array Value) (blk off cap : Nat) (d : Array α) (w : World) (eg : ∀ args w, (callFunc g args).run Tryz.prog w = .ok (.enter g args) w) (hcmp : CmpLays1 Tryz.prog g cb enc cf blk off d.size w) (hH : Holds enc w blk off d) (hblk : blk < w.heap.size) (hsz : d.size < 4611686018427387904) :
    Calls Tryz.prog 74 #[.slice (some ⟨blk, off, none⟩) d.size cap, .func (.func g) #[] cb] w fun e w' =>
      e = .returned (.tuple #[]) ∧ ∃ d' n os, PermIn 0 d.size d d' ∧ SortedIn (ltOf cf) 0 d.size d' ∧ w' = sortWorld enc w blk off n d' os := Any.slices_SortFunc Tryz.laysSlF6_f74 enc h1 cf hO g cb blk off cap d w eg hcmp hH hblk hsz
def Tryz.laysSlF06_f74_ren : Go.Shelf.Ren := ⟨fun | 6 => 74 | 15 => 113 | 14 => 112 | 28 => 161 | 29 => 162 | 20 => 153 | 21 => 154 | 22 => 155 | 23 => 156 | 24 => 157 | 25 => 158 | 26 => 159 | 27 => 160 | 46 => 192 | 47 => 193 | 48 => 194 | 49 => 195 | 50 => 196 | 57 => 204 | n => n, fun | 22 => 22 | 24 => 28 | 25 => 105 | 3 => 3 | 39 => 219 | 0 => 0 | 53 => 279 | 55 => 281 | 4 => 4 | 46 => 273 | 45 => 272 | 50 => 55 | 5 => 5 | 9 => 9 | 66 => 310 | 70 => 314 | 76 => 323 | 77 => 324 | n => n, fun | n => n⟩
theorem Tryz.laysSlF06_f74 : Go.Proofs.SlLaysF0.n6 Tryz.prog Tryz.laysSlF06_f74_ren := {
  mixed := by kernel_rfl
  f6 := ⟨Tryz.f74.name, by decide, Tryz.func74.trans (congrArg some (by kernel_rfl))⟩
  f14 := ⟨Tryz.f112.name, by decide, Tryz.func112.trans (congrArg some (by kernel_rfl))⟩
  f15 := Tryz.func113.trans (congrArg some (by kernel_rfl))
  f20 := ⟨Tryz.f153.name, by decide, Tryz.func153.trans (congrArg some (by kernel_rfl))⟩
  f21 := ⟨Tryz.f154.name, by decide, Tryz.func154.trans (congrArg some (by kernel_rfl))⟩
  f22 := ⟨Tryz.f155.name, by decide, Tryz.func155.trans (congrArg some (by kernel_rfl))⟩
  f23 := ⟨Tryz.f156.name, by decide, Tryz.func156.trans (congrArg some (by kernel_rfl))⟩
  f24 := ⟨Tryz.f157.name, by decide, Tryz.func157.trans (congrArg some (by kernel_rfl))⟩
  f25 := ⟨Tryz.f158.name, by decide, Tryz.func158.trans (congrArg some (by kernel_rfl))⟩
  f26 := ⟨Tryz.f159.name, by decide, Tryz.func159.trans (congrArg some (by kernel_rfl))⟩
  f27 := ⟨Tryz.f160.name, by decide, Tryz.func160.trans (congrArg some (by kernel_rfl))⟩
  f28 := Tryz.func161.trans (congrArg some (by kernel_rfl))
  f29 := Tryz.func162.trans (congrArg some (by kernel_rfl))
  f46 := ⟨Tryz.f192.name, by decide, Tryz.func192.trans (congrArg some (by kernel_rfl))⟩
  f47 := Tryz.func193.trans (congrArg some (by kernel_rfl))
  f48 := Tryz.func194.trans (congrArg some (by kernel_rfl))
  f49 := ⟨Tryz.f195.name, by decide, Tryz.func195.trans (congrArg some (by kernel_rfl))⟩
  f50 := ⟨Tryz.f196.name, by decide, Tryz.func196.trans (congrArg some (by kernel_rfl))⟩
  f57 := ⟨Tryz.f204.name, by decide, Tryz.func204.trans (congrArg some (by kernel_rfl))⟩
  t0 := Tryz.underlying0
  a0 := Tryz.isAgg0
  z0 := Tryz.sizeOf0
  v0 := Tryz.zeroValue0
  t3 := Tryz.underlying3
  a3 := Tryz.isAgg3
  z3 := Tryz.sizeOf3
  v3 := Tryz.zeroValue3
  t4 := Tryz.underlying4
  a4 := Tryz.isAgg4
  z4 := Tryz.sizeOf4
  v4 := Tryz.zeroValue4
  t5 := Tryz.underlying5
  a5 := Tryz.isAgg5
  z5 := Tryz.sizeOf5
  v5 := Tryz.zeroValue5
  t9 := Tryz.underlying9
  a9 := Tryz.isAgg9
  z9 := Tryz.sizeOf9
  v9 := Tryz.zeroValue9
  t22 := Tryz.underlying22
  a22 := Tryz.isAgg22
  z22 := Tryz.sizeOf22
  v22 := Tryz.zeroValue22
  t25 := Tryz.underlying105
  a25 := Tryz.isAgg105
  z25 := Tryz.sizeOf105
  v25 := Tryz.zeroValue105
  t39 := Tryz.underlying219
  a39 := Tryz.isAgg219
  z39 := Tryz.sizeOf219
  v39 := Tryz.zeroValue219
  t45 := Tryz.underlying272
  a45 := Tryz.isAgg272
  z45 := Tryz.sizeOf272
  v45 := Tryz.zeroValue272
  t46 := Tryz.underlying273
  a46 := Tryz.isAgg273
  z46 := Tryz.sizeOf273
  v46 := Tryz.zeroValue273
  t50 := Tryz.underlying55
  a50 := Tryz.isAgg55
  z50 := Tryz.sizeOf55
  v50 := Tryz.zeroValue55
  t53 := Tryz.underlying279
  a53 := Tryz.isAgg279
  z53 := Tryz.sizeOf279
  v53 := Tryz.zeroValue279
  t55 := Tryz.underlying281
  a55 := Tryz.isAgg281
  z55 := Tryz.sizeOf281
  v55 := Tryz.zeroValue281
  t66 := Tryz.underlying310
  a66 := Tryz.isAgg310
  z66 := Tryz.sizeOf310
  v66 := Tryz.zeroValue310
  t70 := Tryz.underlying314
  a70 := Tryz.isAgg314
  z70 := Tryz.sizeOf314
  v70 := Tryz.zeroValue314
  t76 := Tryz.underlying323
  a76 := Tryz.isAgg323
  z76 := Tryz.sizeOf323
  v76 := Tryz.zeroValue323
  t77 := Tryz.underlying324
  a77 := Tryz.isAgg324
  z77 := Tryz.sizeOf324
  v77 := Tryz.zeroValue324 }
open Go.RowKit Go.Lib Go.Sort in
theorem Tryz.slices_SortFunc_none {α : Type} [Inhabited α] (p : Option Addr) (cap : Nat) (fv : Value) (w : World) :
    Calls Tryz.prog 74 #[.slice p 0 cap, fv] w fun e w' => e = .returned (.tuple #[]) ∧ w' = w := AnyF.slices_SortFunc_none Tryz.laysSlF06_f74 p cap fv w

end Go.Proofs

namespace Go.Proofs.YtdfbjnachakkhaaGreatDoor
open Go.ChangeShapes Go.WideShapes Go.ChangeAt Go.RowKit
set_option linter.unusedVariables false
/-- a row that lies in w, in another block than blk -/
def RowOK (w : World) (blk m : Nat) (p : Value × List (List UInt8)) : Prop :=
  Strs w p.1 p.2 ∧ p.2.length = m ∧ ∀ b off cap n, p.1 = .slice (some ⟨b, off, none⟩) n cap → b ≠ blk
abbrev RowIn (w : World) (blk m : Nat) : Type := { p : Value × List (List UInt8) // RowOK w blk m p }
def encR {w : World} {blk m : Nat} (x : RowIn w blk m) : Value := x.val.1
def cfR {w : World} {blk m : Nat} (x y : RowIn w blk m) : Int := ordR x.val.2 y.val.2
theorem oneR (w : World) (blk m : Nat) : OneCell (encR (w := w) (blk := blk) (m := m)) := by
  rintro ⟨⟨v, l⟩, ⟨a, cap, hv, _⟩, _⟩
  simp only at hv
  subst hv
  rfl
theorem ltR_iff {w : World} {blk m : Nat} (x y : RowIn w blk m) : ltOf cfR x y = true ↔ ordR x.val.2 y.val.2 = -1 := by
  unfold ltOf cfR
  rcases ordR_tri x.val.2 y.val.2 with h | h | h <;> simp [h]
theorem swoR (w : World) (blk m : Nat) : Sort.SWO (ltOf (cfR (w := w) (blk := blk) (m := m))) where
  irrefl x := by
    rw [Bool.eq_false_iff]; intro h
    rw [ltR_iff, ordR_self] at h; omega
  trans x y z h1 h2 := by
    rw [ltR_iff] at *
    exact ordR_trans _ _ _ h1 h2 (by rw [x.2.2.1, y.2.2.1]) (by rw [y.2.2.1, z.2.2.1])
  ntrans x y z h1 h2 := by
    rw [Bool.eq_false_iff] at *
    intro h3
    rw [ne_eq, ltR_iff] at h1 h2
    rw [ltR_iff] at h3
    have lxy : x.val.2.length = y.val.2.length := by rw [x.2.2.1, y.2.2.1]
    have lyz : y.val.2.length = z.val.2.length := by rw [y.2.2.1, z.2.2.1]
    rcases ordR_tri y.val.2 x.val.2 with h | h | h
    · have := ordR_trans _ _ _ h h3 (by omega) (by omega)
      exact h2 this
    · have e := ordR_eq _ _ lxy.symm h
      rw [← e] at h3; exact h2 h3
    · have := ordR_neg y.val.2 x.val.2
      rw [h] at this; exact h1 this
theorem grown_sorted {α : Type} [Inhabited α] (enc : α → Value) {w : World} {g n : Nat} {os : Array Obj} (d : Array α) : w.grownBy (sortWorld enc w g 0 n d os) (some g) := by
  refine ⟨rfl, rfl, rfl, by simp [sortWorld], fun k hk hne => ?_⟩
  unfold sortWorld
  rw [Sort.heap_grow_old _ _ (by simpa using hk)]
  have : g ≠ k := fun e => hne (by rw [e])
  simp [Sort.putRow, Sort.mapBlock, Sort.ahead, Array.getElem?_modify, this]
theorem strs_sorted {α : Type} [Inhabited α] (enc : α → Value) {w : World} {blk m n : Nat} {os : Array Obj} (d : Array α) {p : Value × List (List UInt8)} (h : RowOK w blk m p) : Strs (sortWorld enc w blk 0 n d os) p.1 p.2 :=
  strs_grown h.1 (grown_sorted enc d) (fun b off cap k e he => by cases he; exact h.2.2 _ _ _ _ e rfl)
theorem cmpR (w : World) (blk m size : Nat) [Inhabited (RowIn w blk m)] (hm : m ≤ 140737488355328) : CmpLays1 Tryz.prog 75 #[] (encR (w := w) (blk := blk) (m := m)) cfR blk 0 size w := by
  intro n os dk _ x y
  refine (scompare_any x.val.1 y.val.1 x.val.2 y.val.2 _ (strs_sorted encR dk x.2) (strs_sorted encR dk y.2) (by rw [x.2.2.1, y.2.2.1]) (by rw [x.2.2.1]; exact hm)).mono ?_
  rintro e w' ⟨rfl, q, rfl⟩
  exact ⟨rfl, q, #[], by rw [Sort.grow_empty]⟩
theorem entersR : ∀ args w, (callFunc 75 args).run Tryz.prog w = .ok (.enter 75 args) w := enters_of Tryz.func75 (by kernel_rfl) rfl
/-- rows sorted, none of them lost -/
theorem sorted_in (base g cap m : Nat) (us : List Value) (L : List (List (List UInt8))) (w : World) [Inhabited (RowIn w g m)]
    (hown : w.ownsRow base 28 1 (.slice (some ⟨g, 0, none⟩) us.length cap) us.length us) (hlen : us.length = L.length) (hl : us.length ≤ 1073741824) (hm : m ≤ 140737488355328)
    (hin : ∀ p ∈ us.zip L, RowOK w g m p) :
    Calls Tryz.prog 74 #[.slice (some ⟨g, 0, none⟩) us.length cap, .func (.func 75) #[] #[]] w fun e w' =>
      e = .returned (.tuple #[]) ∧ (∃ (ps : List (Value × List (List UInt8))), ps.Perm (us.zip L) ∧ (∀ (i j : Nat) (a b : Value × List (List UInt8)), i < j → ps[i]? = some a → ps[j]? = some b → ordR b.2 a.2 ≠ -1)
        ∧ w'.ownsRow base 28 1 (.slice (some ⟨g, 0, none⟩) us.length cap) us.length (ps.map (·.1))) ∧ w.grownBy w' (some g) := by
  have hz : (us.zip L).length = us.length := by rw [List.length_zip]; omega
  obtain ⟨zs, HZ⟩ : ∃ zs : List (RowIn w g m), zs.map (·.val) = us.zip L := ⟨(us.zip L).attach.map fun p => ⟨p.1, hin p.1 p.2⟩, by
    rw [List.map_map]
    conv => rhs; rw [← List.attach_map_subtype_val (us.zip L)]
    rfl⟩
  have hzl : zs.length = us.length := by rw [← hz, ← HZ, List.length_map]
  have hze : zs.map encR = us := by
    have : zs.map encR = (zs.map (·.val)).map (·.1) := by rw [List.map_map]; rfl
    rw [this, HZ]
    exact List.map_fst_zip (by omega)
  have hown2 : w.ownsRow base 28 1 (.slice (some ⟨g, 0, none⟩) us.length cap) us.length (zs.map encR) := by rw [hze]; exact hown
  obtain ⟨g', cap', hv, hbg, hgw, _, _, _, hH⟩ := Lib.holds_of_ownsRow hown2 (by intro h; cases h)
  cases hv
  have hsz : zs.toArray.size = us.length := by simpa using hzl
  have hcon := Tryz.slices_SortFunc encR (oneR w g m) cfR (swoR w g m) 75 #[] g 0 cap zs.toArray w entersR (cmpR w g m _ hm) hH hgw (by rw [hsz]; omega)
  rw [hsz] at hcon
  refine hcon.mono ?_
  rintro e w' ⟨rfl, d', n, os, ⟨hp1, hp2, hp3⟩, hs, rfl⟩
  have hd1 : d'.size = us.length := by rw [hp1, hsz]
  have hperm : d'.toList.Perm zs := by
    have e1 : (d'.extract 0 us.length).toList = d'.toList := by rw [← hd1]; simp
    have e2 : (zs.toArray.extract 0 us.length).toList = zs := by rw [← hsz]; simp
    rw [e1, e2] at hp3; exact hp3
  refine ⟨rfl, ⟨d'.toList.map (·.val), ?_, ?_, ?_⟩, grown_sorted encR d'⟩
  · rw [← HZ]; exact hperm.map _
  · intro i j a b hij ha hb
    rw [List.getElem?_map] at ha hb
    obtain ⟨x, hx, rfl⟩ := Option.map_eq_some_iff.1 ha
    obtain ⟨y, hy, rfl⟩ := Option.map_eq_some_iff.1 hb
    have hi : i < d'.size := by have := (List.getElem?_eq_some_iff.1 hx).1; simpa using this
    have hj : j < d'.size := by have := (List.getElem?_eq_some_iff.1 hy).1; simpa using this
    have := hs i j (Nat.zero_le _) hij (by omega)
    rw [getElem!_pos d' i hi, getElem!_pos d' j hj] at this
    have ex : d'[i] = x := by
      have := (List.getElem?_eq_some_iff.1 hx).2; simpa using this
    have ey : d'[j] = y := by
      have := (List.getElem?_eq_some_iff.1 hy).2; simpa using this
    rw [ex, ey] at this
    intro h
    rw [(ltR_iff y x).2 h] at this
    cases this
  · have ho := Lib.ownsRow_putRow (enc := encR) (q := n) (k := us.length) (ys := d'.toList) hown2 (by simpa using hd1) (Nat.le_refl _)
    have ht : (d'.toList.take us.length).map encR = (d'.toList.map (·.val)).map (·.1) := by
      rw [List.take_of_length_le (by simp; omega), List.map_map]; rfl
    rw [ht] at ho
    have := Lib.ownsRow_grow ho 0 os
    exact this
end Go.Proofs.YtdfbjnachakkhaaGreatDoor

namespace Go.Proofs.YtdfbjnachakkhaaGreatDoor
theorem rises_nil (m : Nat) : Rises m [] := ⟨by simp, by simp⟩
theorem rises_tail {m : Nat} {a : List (List UInt8)} {L : List (List (List UInt8))} (h : Rises m (a :: L)) : Rises m L :=
  ⟨fun r hr => h.1 r (by simp [hr]), fun i j x y hij hx hy => h.2 (i + 1) (j + 1) x y (by omega) (by simpa using hx) (by simpa using hy)⟩
theorem rises_head {m : Nat} {a : List (List UInt8)} {L : List (List (List UInt8))} (h : Rises m (a :: L)) : ∀ x ∈ L, ordR a x = -1 := by
  intro x hx
  obtain ⟨j, hj⟩ := List.mem_iff_getElem?.1 hx
  exact h.2 0 (j + 1) a x (by omega) (by simp) (by simpa using hj)
theorem rises_cons {m : Nat} {a : List (List UInt8)} {L : List (List (List UInt8))} (h : Rises m L) (ha : a.length = m) (hx : ∀ x ∈ L, ordR a x = -1) : Rises m (a :: L) := by
  refine ⟨fun r hr => ?_, fun i j x y hij hx' hy => ?_⟩
  · rcases List.mem_cons.1 hr with rfl | hr
    · exact ha
    · exact h.1 r hr
  · cases j with
    | zero => omega
    | succ j =>
      have hy' : L[j]? = some y := by simpa using hy
      cases i with
      | zero => simp at hx'; subst hx'; exact hx y (List.mem_of_getElem? hy')
      | succ i => exact h.2 i j x y (by omega) (by simpa using hx') hy'
theorem ahead_cons (a : List (List UInt8)) (L : List (List (List UInt8))) (r : List (List UInt8)) : ahead (a :: L) r = if ordR a r = -1 then ahead L r + 1 else 0 := by
  unfold ahead; rw [List.takeWhile_cons]
  by_cases h : ordR a r = -1 <;> simp [h]
theorem mem_ins (L : List (List (List UInt8))) (r x : List (List UInt8)) : x ∈ ins L r ↔ x = r ∨ x ∈ L := by
  unfold ins
  split
  · rename_i h
    constructor
    · exact Or.inr
    · rintro (rfl | h2)
      · exact h
      · exact h2
  · constructor
    · intro h
      rcases List.mem_append.1 h with h | h
      · exact Or.inr (List.mem_of_mem_take h)
      · rcases List.mem_cons.1 h with h | h
        · exact Or.inl h
        · exact Or.inr (List.mem_of_mem_drop h)
    · intro h
      rcases h with rfl | h
      · simp
      · rw [← List.take_append_drop (ahead L r) L] at h
        rcases List.mem_append.1 h with h | h
        · simp [h]
        · simp [h]
theorem ins_rises (m : Nat) (L : List (List (List UInt8))) (r : List (List UInt8)) (hL : Rises m L) (hr : r.length = m) : Rises m (ins L r) := by
  by_cases hm : r ∈ L
  · unfold ins; rw [if_pos hm]; exact hL
  · unfold ins; rw [if_neg hm]
    induction L with
    | nil => simpa [ahead] using rises_cons (rises_nil m) hr (by simp)
    | cons a L ih =>
      have ht := rises_tail hL
      have hh := rises_head hL
      have ham : a.length = m := hL.1 a (by simp)
      have hnm : r ∉ L := fun h => hm (by simp [h])
      have hne : a ≠ r := fun h => hm (by simp [h])
      rw [ahead_cons]
      by_cases ho : ordR a r = -1
      · rw [if_pos ho]
        simp only [List.take_succ_cons, List.drop_succ_cons, List.cons_append]
        refine rises_cons (ih ht hnm) ham (fun x hx => ?_)
        rcases List.mem_append.1 hx with hx | hx
        · exact hh x (List.mem_of_mem_take hx)
        · rcases List.mem_cons.1 hx with rfl | hx
          · exact ho
          · exact hh x (List.mem_of_mem_drop hx)
      · rw [if_neg ho]
        simp only [List.take_zero, List.drop_zero, List.nil_append]
        have hra : ordR r a = -1 := by
          have h3 := ordR_tri a r
          have h4 := ordR_neg a r
          have h5 : ordR a r ≠ 0 := fun h => hne (ordR_eq a r (by rw [ham, hr]) h)
          omega
        refine rises_cons hL hr (fun x hx => ?_)
        rcases List.mem_cons.1 hx with rfl | hx
        · exact hra
        · exact ordR_trans r a x hra (hh x hx) (by rw [hr, ham]) (by rw [ham, ht.1 x hx])
theorem rises_unique (m : Nat) (L M : List (List (List UInt8))) (hL : Rises m L) (hM : Rises m M) (h : ∀ x, x ∈ L ↔ x ∈ M) : L = M := by
  induction L generalizing M with
  | nil =>
    cases M with
    | nil => rfl
    | cons b M => exact absurd ((h b).2 (by simp)) (by simp)
  | cons a L ih =>
    cases M with
    | nil => exact absurd ((h a).1 (by simp)) (by simp)
    | cons b M =>
      have hab : a = b := by
        rcases List.mem_cons.1 ((h a).1 (by simp)) with e | e
        · exact e
        · rcases List.mem_cons.1 ((h b).2 (by simp)) with f | f
          · exact f.symm
          · have h1 := rises_head hM a e
            have h2 := rises_head hL b f
            have h3 := ordR_neg a b
            omega
      subst hab
      have hna : ∀ {K : List (List (List UInt8))}, Rises m (a :: K) → a ∉ K := fun hK hm => by
        have := rises_head hK a hm
        rw [ordR_self] at this; omega
      rw [ih M (rises_tail hL) (rises_tail hM) (fun x => ?_)]
      constructor
      · intro hx
        rcases List.mem_cons.1 ((h x).1 (by simp [hx])) with e | e
        · subst e; exact absurd hx (hna hL)
        · exact e
      · intro hx
        rcases List.mem_cons.1 ((h x).2 (by simp [hx])) with e | e
        · subst e; exact absurd hx (hna hM)
        · exact e
/-- all rows, rising, each but once -/
def sortU (rows : List (List (List UInt8))) : List (List (List UInt8)) := rows.foldl ins []
theorem foldl_ins (m : Nat) (rows L : List (List (List UInt8))) (hL : Rises m L) (hr : ∀ r ∈ rows, r.length = m) : Rises m (rows.foldl ins L) ∧ ∀ x, x ∈ rows.foldl ins L ↔ x ∈ L ∨ x ∈ rows := by
  induction rows generalizing L with
  | nil => exact ⟨hL, by simp⟩
  | cons r rows ih =>
    have h1 := ih (ins L r) (ins_rises m L r hL (hr r (by simp))) (fun x hx => hr x (by simp [hx]))
    refine ⟨h1.1, fun x => ?_⟩
    rw [List.foldl_cons, h1.2 x, mem_ins]
    simp only [List.mem_cons]
    constructor
    · rintro ((h | h) | h)
      · exact Or.inr (Or.inl h)
      · exact Or.inl h
      · exact Or.inr (Or.inr h)
    · rintro (h | h | h)
      · exact Or.inl (Or.inr h)
      · exact Or.inl (Or.inl h)
      · exact Or.inr h
theorem sortU_rises (m : Nat) (rows : List (List (List UInt8))) (hr : ∀ r ∈ rows, r.length = m) : Rises m (sortU rows) := (foldl_ins m rows [] (rises_nil m) hr).1
theorem mem_sortU (m : Nat) (rows : List (List (List UInt8))) (hr : ∀ r ∈ rows, r.length = m) (x : List (List UInt8)) : x ∈ sortU rows ↔ x ∈ rows := by
  have := (foldl_ins m rows [] (rises_nil m) hr).2 x
  unfold sortU; rw [this]; simp
/-- any rising list with the same rows is it: in whatever order rows come, and however often -/
theorem sortU_is (m : Nat) (rows L : List (List (List UInt8))) (hr : ∀ r ∈ rows, r.length = m) (hL : Rises m L) (h : ∀ x, x ∈ L ↔ x ∈ rows) : sortU rows = L :=
  rises_unique m _ _ (sortU_rises m rows hr) hL (fun x => by rw [mem_sortU m rows hr, h])
theorem sortU_self (m : Nat) (L : List (List (List UInt8))) (h : Rises m L) : sortU L = L := sortU_is m L L h.1 h (fun _ => Iff.rfl)
/-- what is wrong with rows of which each should have m texts, from the i-th on: the error and its place -/
def bad (m : Nat) (i : Nat) : List (List (List UInt8)) → Option (Nat × Nat)
  | [] => none
  | r :: rest => if r.length = m then (if r.all (fun t => decide (t.length ≤ 200)) then bad m (i + 1) rest else some (1, i)) else some (9, i)
/-- C1: an error and its place, or the tidy rows -/
def tidy (name : List UInt8) (arity : Int) (rows : List (List (List UInt8))) : Nat × Nat × List (List (List UInt8)) :=
  if isName name = false then (8, 0, []) else if arity < 0 ∨ 8 < arity then (3, 0, []) else
  match bad arity.toNat 0 rows with
  | some (e, i) => (e, i, [])
  | none => if 2000 < (sortU rows).length then (7, 0, []) else (0, 0, sortU rows)
end Go.Proofs.YtdfbjnachakkhaaGreatDoor
