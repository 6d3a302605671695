import Derived.Test.YtgllfcoafgphbaaGreatDoorM01
import Derived.Test.YtgllfcoafgphbaaGreatDoorM04
/-
  Frames: what a call leaves as it was.
-/
namespace Go.Proofs.YtgllfcoafgphbaaGreatDoor
open Go.ChangeShapes Go.WideShapes Go.ChangeAt Go.RowKit
set_option linter.unusedVariables false
theorem hide {p : Prop} (h : p) : Hid p := h
theorem fr_refl (w : World) (row : Option Nat) : w.grownBy w row := ⟨rfl, rfl, rfl, Nat.le_refl _, fun _ _ _ => rfl⟩
theorem fr_set (w : World) (b j : Nat) (u : Value) : w.grownBy (w.setCell ⟨b, j, none⟩ u) (some b) := ⟨rfl, rfl, rfl, by simp [World.setCell], fun k hk hne => Below.heap_setCell _ _ _ _ (fun e => hne (by rw [e]))⟩
theorem fr_draws (w : World) (n : Nat) (row : Option Nat) : w.grownBy (w.drewN n) row := ⟨rfl, rfl, rfl, Nat.le_refl _, fun _ _ _ => rfl⟩
theorem fr_alloc (w : World) (o : Obj) (r : Option Nat) : w.grownBy (w.alloc o) r := ⟨rfl, rfl, rfl, by simp, fun k hk _ => Below.heap_alloc _ _ _ hk⟩
theorem fr_trans {a b c : World} {r s : Option Nat} (h : a.grownBy b r) (k : b.grownBy c s) (hs : ∀ g, s = some g → s = r ∨ a.heap.size ≤ g) : a.grownBy c r :=
  ⟨k.os.trans h.os, k.tape.trans h.tape, k.output.trans h.output, Nat.le_trans h.size k.size, fun j hj hne => by
    have h1 := h.block j hj hne
    have h2 := k.block j (Nat.lt_of_lt_of_le hj h.size) (fun e => by
      rcases hs j e.symm with e2 | e2
      · exact hne (e.trans e2)
      · omega)
    rw [h2, h1]⟩
/-- the same row twice -/
theorem fr_both {a b c : World} {r : Option Nat} (h : a.grownBy b r) (k : b.grownBy c r) : a.grownBy c r := fr_trans h k (fun _ _ => Or.inl rfl)
/-- a cell turned that did not lie there -/
theorem fr_new {a b : World} {r : Option Nat} (h : a.grownBy b r) {R : Nat} (hR : a.heap.size ≤ R) (j : Nat) (u : Value) : a.grownBy (b.setCell ⟨R, j, none⟩ u) r :=
  fr_trans h (fr_set b R j u) (fun g hg => Or.inr (by cases hg; exact hR))
/-- a row of one's own turned, that did not lie there -/
theorem fr_own {a b c : World} {r : Option Nat} {base : Nat} {e : TypeId} {size : Nat} {v : Value} {n : Nat} {xs : List Value} (h : a.grownBy b r) (ho : b.ownsRow base e size v n xs) (hb : a.heap.size ≤ base) (k : b.grownBy c v.ownBlock) : a.grownBy c r :=
  fr_trans h k (fun g hg => Or.inr (by
    rcases ho.2 with ⟨rfl, _⟩ | ⟨g', cap, cur, rfl, hbg, _⟩
    · cases hg
    · cases hg; exact Nat.le_trans hb hbg))
theorem own_far {w w' : World} {base : Nat} {e : TypeId} {size : Nat} {v : Value} {n : Nat} {xs : List Value} {row : Option Nat} (h : w.ownsRow base e size v n xs) (hg : w.grownBy w' row) (hne : ∀ g, v.ownBlock = some g → row ≠ some g) : w'.ownsRow base e size v n xs :=
  h.kept hg (by
    cases hv : v.ownBlock with
    | none => exact Or.inl rfl
    | some g => exact Or.inr (fun e => hne g hv e.symm))
theorem own_blk {w : World} {base : Nat} {e : TypeId} {size : Nat} {v : Value} {n : Nat} {xs : List Value} (h : w.ownsRow base e size v n xs) {g : Nat} (hv : v.ownBlock = some g) : base ≤ g ∧ g < w.heap.size := by
  rcases h.2 with ⟨rfl, _⟩ | ⟨g', cap, cur, rfl, hbg, hg, _⟩
  · cases hv
  · cases hv; exact ⟨hbg, (Array.getElem?_eq_some_iff.1 hg).1⟩
theorem own_lower {w : World} {b b' : Nat} {e : TypeId} {size : Nat} {v : Value} {n : Nat} {xs : List Value} (h : w.ownsRow b e size v n xs) (hb : b' ≤ b) : w.ownsRow b' e size v n xs := by
  refine ⟨h.1, ?_⟩
  rcases h.2 with h2 | ⟨g, cap, cur, hv, hbg, rest⟩
  · exact Or.inl h2
  · exact Or.inr ⟨g, cap, cur, hv, Nat.le_trans hb hbg, rest⟩
theorem own_form {w : World} {base : Nat} {e : TypeId} {size : Nat} {v : Value} {n : Nat} {xs : List Value} (h : w.ownsRow base e size v n xs) : ∃ a c, v = .slice a n c := by
  rcases h.2 with ⟨rfl, h0⟩ | ⟨g, cap, cur, rfl, _⟩
  · exact ⟨none, 0, by rw [h0]⟩
  · exact ⟨_, cap, rfl⟩
end Go.Proofs.YtgllfcoafgphbaaGreatDoor

/-
  The document's Reader: text, walked.
-/
namespace Go.Proofs.YtgllfcoafgphbaaGreatDoor
open Go.ChangeShapes Go.WideShapes Go.ChangeAt Go.RowKit
set_option linter.unusedVariables false
theorem RFx.g {w w' : World} {b : Nat} (h : RFx w w' b) : w.grownBy w' (some b) :=
  ⟨h.os, h.tape, h.output, by rw [h.size]; exact Nat.le_refl _, fun k hk hne => h.block k (fun e => hne (by rw [e]))⟩
theorem RS.far {w w' : World} {b : Nat} {s : ByteArray} {i kd : Int} {tx : ByteArray} {a e x : Int} (h : RS w b s i kd tx a e x) (hb : w'.heap[b]? = w.heap[b]?) : RS w' b s i kd tx a e x :=
  ⟨(World.cell?_of_block hb).trans h.c0, (World.cell?_of_block hb).trans h.c1, (World.cell?_of_block hb).trans h.c2, (World.cell?_of_block hb).trans h.c3, (World.cell?_of_block hb).trans h.c4, (World.cell?_of_block hb).trans h.c5, (World.cell?_of_block hb).trans h.c6,
    (World.frozen?_of_block hb).trans h.f1, (World.frozen?_of_block hb).trans h.f2, (World.frozen?_of_block hb).trans h.f3, (World.frozen?_of_block hb).trans h.f4, (World.frozen?_of_block hb).trans h.f5, (World.frozen?_of_block hb).trans h.f6⟩
theorem RS.lt {w : World} {b : Nat} {s : ByteArray} {i kd : Int} {tx : ByteArray} {a e x : Int} (h : RS w b s i kd tx a e x) : b < w.heap.size := by
  rcases Nat.lt_or_ge b w.heap.size with h1 | h1
  · exact h1
  · have := h.c0
    simp [World.cell?, Array.getElem?_eq_none h1] at this
/-- the string loop: one plain byte -/
theorem strGo_plain (s : ByteArray) (k : Nat) (h : k < s.size) (h34 : s[k].toNat ≠ 34) (h10 : s[k].toNat ≠ 10) (h92 : s[k].toNat ≠ 92) (acc : List UInt8) : strGo (s.data.toList.drop k) k acc = strGo (s.data.toList.drop (k + 1)) (k + 1) (acc ++ [s[k]]) := by
  rw [drop_byte s k h, strGo.eq_def]
  simp only []
  rw [if_neg (fun e => h34 (by rw [e]; rfl)), if_neg (fun e => h10 (by rw [e]; rfl)), if_neg (fun e => h92 (by rw [e]; rfl))]
theorem strGo_esc (s : ByteArray) (k : Nat) (h : k + 1 < s.size) (h92 : s[k].toNat = 92) (acc : List UInt8) : strGo (s.data.toList.drop k) k acc =
    if s[k + 1].toNat = 110 then strGo (s.data.toList.drop (k + 2)) (k + 2) (acc ++ [10]) else if s[k + 1].toNat = 34 ∨ s[k + 1].toNat = 92 then strGo (s.data.toList.drop (k + 2)) (k + 2) (acc ++ [s[k + 1]]) else .error (2, k + 1) := by
  have e : s[k] = 92 := by apply UInt8.toNat_inj.1; rw [h92]; rfl
  rw [drop_byte s k (by omega), drop_byte s (k + 1) h, strGo.eq_def]
  simp only []
  have e1 : (s[k + 1] = 110) = (s[k + 1].toNat = 110) := propext ⟨fun g => by rw [g]; rfl, fun g => by apply UInt8.toNat_inj.1; rw [g]; rfl⟩
  have e2 : (s[k + 1] = 34) = (s[k + 1].toNat = 34) := propext ⟨fun g => by rw [g]; rfl, fun g => by apply UInt8.toNat_inj.1; rw [g]; rfl⟩
  have e3 : (s[k + 1] = 92) = (s[k + 1].toNat = 92) := propext ⟨fun g => by rw [g]; rfl, fun g => by apply UInt8.toNat_inj.1; rw [g]; rfl⟩
  rw [if_neg (by rw [e]; decide), if_neg (by rw [e]; decide), if_pos e]
  simp only [e1, e2, e3]
theorem strGo_escend (s : ByteArray) (k : Nat) (h : k + 1 = s.size) (h92 : s[k].toNat = 92) (acc : List UInt8) : strGo (s.data.toList.drop k) k acc = .error (2, k + 1) := by
  have e : s[k] = 92 := by apply UInt8.toNat_inj.1; rw [h92]; rfl
  rw [drop_byte s k (by omega), drop_end s (k + 1) (by omega), strGo.eq_def]
  simp only []
  rw [if_neg (by rw [e]; decide), if_neg (by rw [e]; decide), if_pos e]
theorem strGo_end (s : ByteArray) (k : Nat) (h : s.size ≤ k) (acc : List UInt8) : strGo (s.data.toList.drop k) k acc = .error (2, k) := by
  rw [drop_end s k h, strGo]
theorem strGo_line (s : ByteArray) (k : Nat) (h : k < s.size) (h10 : s[k].toNat = 10) (acc : List UInt8) : strGo (s.data.toList.drop k) k acc = .error (2, k) := by
  have e : s[k] = 10 := by apply UInt8.toNat_inj.1; rw [h10]; rfl
  rw [drop_byte s k h, strGo.eq_def]
  simp only []
  rw [if_neg (by rw [e]; decide), if_pos e]
theorem strGo_quot (s : ByteArray) (k : Nat) (h : k < s.size) (h34 : s[k].toNat = 34) (acc : List UInt8) : strGo (s.data.toList.drop k) k acc = .ok (acc, k + 1) := by
  have e : s[k] = 34 := by apply UInt8.toNat_inj.1; rw [h34]; rfl
  rw [drop_byte s k h, strGo.eq_def]
  simp only []
  rw [if_pos e]
/-- one byte more -/
theorem text_app {w wr w4 : World} {b : Nat} {s : ByteArray} {k kd : Int} {tx : ByteArray} {a e x : Int} {o v4 : Value} {out : List UInt8} {ob : Obj} {c : UInt8} (hbw : b < w.heap.size) (HK : RS wr b s k kd tx a e x) (HO : wr.ownsRow w.heap.size 5 1 o out.length (bs out)) (HG : w.grownBy wr (some b))
    (hown : w4.ownsRow w.heap.size 5 1 v4 (out.length + 1) (bs out ++ [.int .u8 (c.toNat : Int)])) (hg : (wr.alloc ob).grownBy w4 o.ownBlock) :
    RS w4 b s k kd tx a e x ∧ w4.ownsRow w.heap.size 5 1 v4 (out ++ [c]).length (bs (out ++ [c])) ∧ w.grownBy w4 (some b) := by
  have hba : (wr.alloc ob).heap[b]? = wr.heap[b]? := Below.heap_alloc _ _ _ HK.lt
  have hne : some b ≠ o.ownBlock := by
    intro e
    have := (own_blk HO e.symm).1
    omega
  refine ⟨HK.far ((hg.block b (by have := HK.lt; simp; omega) hne).trans hba), ?_, fr_own (fr_both HG (fr_alloc wr ob _)) (HO.alloc ob) (Nat.le_refl _) hg⟩
  rw [bs_snoc] at hown
  rw [List.length_append]; exact hown
set_option maxRecDepth 100000 in
set_option maxHeartbeats 4000000 in
theorem rtext_any (b : Nat) (s : ByteArray) (i kd : Nat) (tx : ByteArray) (a x : Nat) (w : World) (h : RS w b s (i : Nat) (kd : Nat) tx (a : Nat) 0 (x : Nat)) (hi : i < s.size) (hs : s.size ≤ 1073741824) :
    Calls Tryz.prog 128 #[.pointer (some ⟨b, 0, none⟩)] w fun en w' => en = .returned (.tuple #[]) ∧ RP w' b s (textS s ⟨i, kd, tx, a, 0, x⟩) ∧ w.grownBy w' (some b) := by
  obtain ⟨i0, hi0, hz0, hz1, hz2⟩ := info_parts info5
  have HS : Hid (RS w b s (i : Nat) (kd : Nat) tx (a : Nat) 0 (x : Nat)) := h
  have hbw := h.lt
  have HTX : Hid (∀ q, strGo (s.data.toList.drop (i + 1)) (i + 1) [] = .error (2, q) → textS s ⟨i, kd, tx, a, 0, x⟩ = ⟨q, kd, tx, a, 2, q⟩) := by
    intro q hq; unfold textS; simp only [hq]
  have HTO : Hid (∀ l q, strGo (s.data.toList.drop (i + 1)) (i + 1) [] = .ok (l, q) → textS s ⟨i, kd, tx, a, 0, x⟩ = ⟨q, 6, str l, i, 0, x⟩) := by
    intro l q hq; unfold textS; simp only [hq]; rfl
  obtain ⟨c0, c1, c2, c3, c4, c5, c6, f1, f2, f3, f4, f5, f6⟩ := h
  go_enter Tryz.func128, Tryz.ntmps128
  go_wp2
  go_loopw [3, 4] (fun o c wr => ∃ (k : Nat) (out : List UInt8), k ≤ s.size ∧ i < k ∧ out.length ≤ k ∧ Hid (RS wr b s (k : Nat) (kd : Nat) tx (a : Nat) 0 (x : Nat)) ∧ Hid (wr.ownsRow w.heap.size 5 1 o out.length (bs out)) ∧ Hid (w.grownBy wr (some b)) ∧ Hid (strGo (s.data.toList.drop (i + 1)) (i + 1) [] = strGo (s.data.toList.drop k) k out)) (fun _ _ wr => s.size - placeOf wr b)
  case atStart => exact ⟨i + 1, [], by omega, by omega, by simp, HS.out.set1 _, World.ownsRow_nil _ _ _ _, fr_set _ _ _ _, (rfl : _ = _)⟩
  case round =>
    obtain ⟨k, out, hk, hik, hol, HK, HO, HG, HT⟩ := hrel
    clear c0 c1 c2 c3 c4 c5 c6 f1 f2 f3 f4 f5 f6
    obtain ⟨c0, c1, c2, c3, c4, c5, c6, f1, f2, f3, f4, f5, f6⟩ := HK.out
    have HPL : Hid (placeOf wr b = k) := placeOf_rd HK.out.rd
    by_cases hkl : k < s.size
    · have hck := byte_le s[k]
      by_cases h34 : s[k].toNat = 34
      · have e34 : ((s[k].toNat : Int) != 34) = false := by simp [h34]
        have HT2 : Hid (textS s ⟨i, kd, tx, a, 0, x⟩ = ⟨k + 1, 6, str out, i, 0, x⟩) := HTO.out _ _ (by rw [HT.out]; exact strGo_quot s k hkl h34 out)
        have hcv : ∀ n, Sem.run Tryz.prog (convert 212 9 u3) ((wr.drewN n).setCell ⟨b, 1, none⟩ (.int .i64 (k + 1))) = .ok (.string (str out)) ((wr.drewN n).setCell ⟨b, 1, none⟩ (.int .i64 (k + 1))) := by
          intro n
          exact own_string (own_far (own_far HO.out (fr_draws _ n none) (fun _ _ => by simp)) (fr_set _ b 1 _) (fun g hg => by have := (own_blk HO.out hg).1; simp; omega))
        clear h34
        go_wp2_with fail
        go_quiet (fail)
        go_wp2_with fail
        go_quiet (fail)
        go_wp2
        go_end0
        refine ⟨rfl, ?_, fr_both (fr_both (fr_both (fr_both (fr_both HG.out (fr_draws _ _ _)) (fr_set _ _ _ _)) (fr_set _ _ _ _)) (fr_set _ _ _ _)) (fr_set _ _ _ _)⟩
        rw [HT2.out]
        exact ((((HK.out.drewN _).set1 _).set2 _).set3 _).set4 _
      · have e34 : ((s[k].toNat : Int) != 34) = true := by rw [bne_iff_ne]; omega
        by_cases h10 : s[k].toNat = 10
        · have e10 : ((s[k].toNat : Int) != 10) = false := by simp [h10]
          have HT2 : Hid (textS s ⟨i, kd, tx, a, 0, x⟩ = ⟨k, kd, tx, a, 2, k⟩) := HTX.out _ (by rw [HT.out]; exact strGo_line s k hkl h10 out)
          clear h34 h10
          go_wp2_with fail
          go_quiet (fail)
          go_wp2_with fail
          go_quiet (fail)
          go_wp2_with fail
          refine (rfailS_any b s ⟨k, kd, tx, a, 0, x⟩ 2 k _ (HK.out.drewN _)).mono ?_
          rintro en w5 ⟨rfl, HN, HF⟩
          have HN5 : Hid (RP w5 b s (textS s ⟨i, kd, tx, a, 0, x⟩)) := by rw [HT2.out]; exact HN
          have HG5 : Hid (w.grownBy w5 (some b)) := fr_both (fr_both HG.out (fr_draws _ _ _)) HF.g
          clear HN HF
          go_wp2
          refine bodyPost_ret (results_none rfl _ _ _) rfl ?_
          exact ⟨rfl, HN5.out, HG5.out⟩
        · have e10 : ((s[k].toNat : Int) != 10) = true := by rw [bne_iff_ne]; omega
          by_cases h92 : s[k].toNat = 92
          · have e92 : ((s[k].toNat : Int) == 92) = true := by simp [h92]
            obtain ⟨m, HM⟩ : ∃ m, Hid (m = k + 1) := ⟨_, (rfl : _ = _)⟩
            have hm1 : k < m := by have := HM.out; omega
            have hm2 : m ≤ k + 1 := by have := HM.out; omega
            by_cases hk1 : m < s.size
            · have hck1 := byte_le s[m]
              have HE : Hid (strGo (s.data.toList.drop (i + 1)) (i + 1) [] = if s[m].toNat = 110 then strGo (s.data.toList.drop (m + 1)) (m + 1) (out ++ [10]) else if s[m].toNat = 34 ∨ s[m].toNat = 92 then strGo (s.data.toList.drop (m + 1)) (m + 1) (out ++ [s[m]]) else .error (2, m)) := by
                show _ = _; rw [HT.out]; have := HM.out; subst this; exact strGo_esc s k hk1 h92 out
              clear h34 h10 h92
              go_wp2_with fail
              go_quiet (fail)
              go_wp2_with fail
              go_quiet (fail)
              go_wp2_with fail
              generalize hw2 : World.setCell _ _ _ = w2
              have HK2 : Hid (RS w2 b s (m : Nat) (kd : Nat) tx (a : Nat) 0 (x : Nat)) := by rw [← hw2, HM.out]; exact (HK.out.drewN _).set1 _
              have HO2 : Hid (w2.ownsRow w.heap.size 5 1 u3 out.length (bs out)) := by
                rw [← hw2]
                exact own_far (own_far HO.out (fr_draws _ _ none) (fun _ _ => by simp)) (fr_set _ b 1 _) (fun g hg => by have := (own_blk HO.out hg).1; simp; omega)
              have HG2 : Hid (w.grownBy w2 (some b)) := by rw [← hw2]; exact fr_both (fr_both HG.out (fr_draws _ _ _)) (fr_set _ _ _ _)
              clear hw2 c0 c1 c2 c3 c4 c5 c6 f1 f2 f3 f4 f5 f6
              obtain ⟨c0, c1, c2, c3, c4, c5, c6, f1, f2, f3, f4, f5, f6⟩ := HK2.out
              go_wp2_with fail
              go_quiet (fail)
              by_cases d110 : s[m].toNat = 110
              · have g1 : ((s[m].toNat : Int) == 110) = true := by simp [d110]
                have HT2 : Hid (strGo (s.data.toList.drop (i + 1)) (i + 1) [] = strGo (s.data.toList.drop (m + 1)) (m + 1) (out ++ [10])) := by show _ = _; rw [HE.out, if_pos d110]
                clear d110
                go_wp2_with fail
                go_quiet (fail)
                go_wp2_with (at_builtin; refine wpList_append_own _ rfl _ _ 212 rfl w.heap.size 5 i0 (.int .u8 0) 1 1 Tryz.underlying212 hi0 hz0 hz1 hz2 rfl (by decide) _ _ _ rfl ((own_far HO2.out (fr_draws _ _ none) (fun _ _ => by simp)).alloc _) ⟨w2.heap.size, 0, none⟩ 1 1 [.int .u8 ((10 : UInt8).toNat : Int)] rfl rfl ?c1 ?c2 ?c3 ?c4 ?c5 ?_)
                case c1 =>
                  intro j' u hj'
                  match j', hj' with
                  | 0, hj' => simp at hj'; subst hj'; exact World.cell?_alloc_at _ _ _ _ rfl
                case c2 => intro u hu; simp at hu; subst hu; rfl
                case c3 => unfold maxLen; omega
                case c4 => omega
                case c5 => have := HG2.out.size; simp; omega
                intro v4 w4 hown4 hg4 _
                obtain ⟨K4, O4, G4⟩ := text_app (c := 10) hbw (HK2.out.drewN _) (own_far HO2.out (fr_draws _ _ none) (fun _ _ => by simp)) (fr_both HG2.out (fr_draws _ _ _)) hown4 hg4
                have HK4 := hide K4
                have HO4 := hide O4
                have HG4 := hide G4
                clear c0 c1 c2 c3 c4 c5 c6 f1 f2 f3 f4 f5 f6 K4 O4 G4 hown4 hg4
                obtain ⟨c0, c1, c2, c3, c4, c5, c6, f1, f2, f3, f4, f5, f6⟩ := HK4.out
                go_wp2
                go_roundw
                case rel => exact ⟨m + 1, out ++ [10], by omega, by omega, by simp; omega, HK4.out.set1 _, own_far HO4.out (fr_set _ _ _ _) (fun g hg => by have := (own_blk HO4.out hg).1; simp; omega), fr_both HG4.out (fr_set _ _ _ _), HT2⟩
                case measure => rw [placeOf_set HK4.out.rd, HPL.out]; omega

              · have g1 : ((s[m].toNat : Int) == 110) = false := by rw [beq_eq_false_iff_ne]; omega
                by_cases d34 : s[m].toNat = 34
                · have g2 : ((s[m].toNat : Int) != 34) = false := by simp [d34]
                  have HT2 : Hid (strGo (s.data.toList.drop (i + 1)) (i + 1) [] = strGo (s.data.toList.drop (m + 1)) (m + 1) (out ++ [s[m]])) := by show _ = _; rw [HE.out, if_neg d110, if_pos (Or.inl d34)]
                  clear d110 d34
                  go_wp2_with fail
                  go_quiet (fail)
                  go_wp2_with (at_builtin; refine wpList_append_own _ rfl _ _ 212 rfl w.heap.size 5 i0 (.int .u8 0) 1 1 Tryz.underlying212 hi0 hz0 hz1 hz2 rfl (by decide) _ _ _ rfl ((own_far HO2.out (fr_draws _ _ none) (fun _ _ => by simp)).alloc _) ⟨w2.heap.size, 0, none⟩ 1 1 [.int .u8 ((s[m]).toNat : Int)] rfl rfl ?c1 ?c2 ?c3 ?c4 ?c5 ?_)
                  case c1 =>
                    intro j' u hj'
                    match j', hj' with
                    | 0, hj' => simp at hj'; subst hj'; exact World.cell?_alloc_at _ _ _ _ rfl
                  case c2 => intro u hu; simp at hu; subst hu; rfl
                  case c3 => unfold maxLen; omega
                  case c4 => omega
                  case c5 => have := HG2.out.size; simp; omega
                  intro v4 w4 hown4 hg4 _
                  obtain ⟨K4, O4, G4⟩ := text_app (c := s[m]) hbw (HK2.out.drewN _) (own_far HO2.out (fr_draws _ _ none) (fun _ _ => by simp)) (fr_both HG2.out (fr_draws _ _ _)) hown4 hg4
                  have HK4 := hide K4
                  have HO4 := hide O4
                  have HG4 := hide G4
                  clear c0 c1 c2 c3 c4 c5 c6 f1 f2 f3 f4 f5 f6 K4 O4 G4 hown4 hg4
                  obtain ⟨c0, c1, c2, c3, c4, c5, c6, f1, f2, f3, f4, f5, f6⟩ := HK4.out
                  go_wp2
                  go_roundw
                  case rel => exact ⟨m + 1, out ++ [s[m]], by omega, by omega, by simp; omega, HK4.out.set1 _, own_far HO4.out (fr_set _ _ _ _) (fun g hg => by have := (own_blk HO4.out hg).1; simp; omega), fr_both HG4.out (fr_set _ _ _ _), HT2⟩
                  case measure => rw [placeOf_set HK4.out.rd, HPL.out]; omega

                · have g2 : ((s[m].toNat : Int) != 34) = true := by rw [bne_iff_ne]; omega
                  by_cases d92 : s[m].toNat = 92
                  · have g3 : ((s[m].toNat : Int) != 92) = false := by simp [d92]
                    have HT2 : Hid (strGo (s.data.toList.drop (i + 1)) (i + 1) [] = strGo (s.data.toList.drop (m + 1)) (m + 1) (out ++ [s[m]])) := by show _ = _; rw [HE.out, if_neg d110, if_pos (Or.inr d92)]
                    clear d110 d34 d92
                    go_wp2_with fail
                    go_quiet (fail)
                    go_wp2_with (at_builtin; refine wpList_append_own _ rfl _ _ 212 rfl w.heap.size 5 i0 (.int .u8 0) 1 1 Tryz.underlying212 hi0 hz0 hz1 hz2 rfl (by decide) _ _ _ rfl ((own_far HO2.out (fr_draws _ _ none) (fun _ _ => by simp)).alloc _) ⟨w2.heap.size, 0, none⟩ 1 1 [.int .u8 ((s[m]).toNat : Int)] rfl rfl ?c1 ?c2 ?c3 ?c4 ?c5 ?_)
                    case c1 =>
                      intro j' u hj'
                      match j', hj' with
                      | 0, hj' => simp at hj'; subst hj'; exact World.cell?_alloc_at _ _ _ _ rfl
                    case c2 => intro u hu; simp at hu; subst hu; rfl
                    case c3 => unfold maxLen; omega
                    case c4 => omega
                    case c5 => have := HG2.out.size; simp; omega
                    intro v4 w4 hown4 hg4 _
                    obtain ⟨K4, O4, G4⟩ := text_app (c := s[m]) hbw (HK2.out.drewN _) (own_far HO2.out (fr_draws _ _ none) (fun _ _ => by simp)) (fr_both HG2.out (fr_draws _ _ _)) hown4 hg4
                    have HK4 := hide K4
                    have HO4 := hide O4
                    have HG4 := hide G4
                    clear c0 c1 c2 c3 c4 c5 c6 f1 f2 f3 f4 f5 f6 K4 O4 G4 hown4 hg4
                    obtain ⟨c0, c1, c2, c3, c4, c5, c6, f1, f2, f3, f4, f5, f6⟩ := HK4.out
                    go_wp2
                    go_roundw
                    case rel => exact ⟨m + 1, out ++ [s[m]], by omega, by omega, by simp; omega, HK4.out.set1 _, own_far HO4.out (fr_set _ _ _ _) (fun g hg => by have := (own_blk HO4.out hg).1; simp; omega), fr_both HG4.out (fr_set _ _ _ _), HT2⟩
                    case measure => rw [placeOf_set HK4.out.rd, HPL.out]; omega

                  · have g3 : ((s[m].toNat : Int) != 92) = true := by rw [bne_iff_ne]; omega
                    have HT2 : Hid (textS s ⟨i, kd, tx, a, 0, x⟩ = ⟨m, kd, tx, a, 2, m⟩) := HTX.out _ (by rw [HE.out, if_neg d110, if_neg (by omega)])
                    clear d110 d34 d92
                    go_wp2_with fail
                    go_quiet (fail)
                    go_wp2_with fail
                    refine (rfailS_any b s ⟨m, kd, tx, a, 0, x⟩ 2 m _ (HK2.out.drewN _)).mono ?_
                    rintro en w5 ⟨rfl, HN, HF⟩
                    have HN5 : Hid (RP w5 b s (textS s ⟨i, kd, tx, a, 0, x⟩)) := by rw [HT2.out]; exact HN
                    have HG5 : Hid (w.grownBy w5 (some b)) := fr_both (fr_both HG2.out (fr_draws _ _ _)) HF.g
                    clear HN HF
                    go_wp2
                    refine bodyPost_ret (results_none rfl _ _ _) rfl ?_
                    exact ⟨rfl, HN5.out, HG5.out⟩
            · have hke : k + 1 = s.size := by have := HM.out; omega
              have HT2 : Hid (textS s ⟨i, kd, tx, a, 0, x⟩ = ⟨m, kd, tx, a, 2, m⟩) := HTX.out _ (by rw [HT.out, HM.out]; exact strGo_escend s k hke h92 out)
              clear h34 h10 h92
              have hge : s.size ≤ m := by omega
              clear hke
              go_wp2_with fail
              go_quiet (fail)
              go_wp2_with fail
              go_quiet (fail)
              go_wp2_with fail
              generalize hw2 : World.setCell _ _ _ = w2
              have HK2 : Hid (RS w2 b s (m : Nat) (kd : Nat) tx (a : Nat) 0 (x : Nat)) := by rw [← hw2, HM.out]; exact (HK.out.drewN _).set1 _
              have HO2 : Hid (w2.ownsRow w.heap.size 5 1 u3 out.length (bs out)) := by
                rw [← hw2]
                exact own_far (own_far HO.out (fr_draws _ _ none) (fun _ _ => by simp)) (fr_set _ b 1 _) (fun g hg => by have := (own_blk HO.out hg).1; simp; omega)
              have HG2 : Hid (w.grownBy w2 (some b)) := by rw [← hw2]; exact fr_both (fr_both HG.out (fr_draws _ _ _)) (fr_set _ _ _ _)
              clear hw2 c0 c1 c2 c3 c4 c5 c6 f1 f2 f3 f4 f5 f6
              obtain ⟨c0, c1, c2, c3, c4, c5, c6, f1, f2, f3, f4, f5, f6⟩ := HK2.out
              go_wp2_with fail
              go_quiet (fail)
              go_wp2_with fail
              refine (rfailS_any b s ⟨m, kd, tx, a, 0, x⟩ 2 m _ (HK2.out.drewN _)).mono ?_
              rintro en w5 ⟨rfl, HN, HF⟩
              have HN5 : Hid (RP w5 b s (textS s ⟨i, kd, tx, a, 0, x⟩)) := by rw [HT2.out]; exact HN
              have HG5 : Hid (w.grownBy w5 (some b)) := fr_both (fr_both HG2.out (fr_draws _ _ _)) HF.g
              clear HN HF
              go_wp2
              refine bodyPost_ret (results_none rfl _ _ _) rfl ?_
              exact ⟨rfl, HN5.out, HG5.out⟩
          · have e92 : ((s[k].toNat : Int) == 92) = false := by rw [beq_eq_false_iff_ne]; omega
            have HT2 : Hid (strGo (s.data.toList.drop (i + 1)) (i + 1) [] = strGo (s.data.toList.drop (k + 1)) (k + 1) (out ++ [s[k]])) := by
              show _ = _; rw [HT.out]; exact strGo_plain s k hkl h34 h10 h92 out
            clear h34 h10 h92
            go_wp2_with fail
            go_quiet (fail)
            go_wp2_with fail
            go_quiet (fail)
            go_wp2_with (at_builtin; refine wpList_append_own _ rfl _ _ 212 rfl w.heap.size 5 i0 (.int .u8 0) 1 1 Tryz.underlying212 hi0 hz0 hz1 hz2 rfl (by decide) _ _ _ rfl ((own_far HO.out (fr_draws _ _ none) (fun _ _ => by simp)).alloc _) ⟨wr.heap.size, 0, none⟩ 1 1 [.int .u8 (s[k].toNat : Int)] rfl rfl ?c1 ?c2 ?c3 ?c4 ?c5 ?_)
            case c1 =>
              intro j' u hj'
              match j', hj' with
              | 0, hj' => simp at hj'; subst hj'; exact World.cell?_alloc_at _ _ _ _ rfl
            case c2 => intro u hu; simp at hu; subst hu; rfl
            case c3 => unfold maxLen; omega
            case c4 => omega
            case c5 => have := HG.out.size; simp; omega
            intro v4 w4 hown4 hg4 _
            obtain ⟨K4, O4, G4⟩ := text_app hbw (HK.out.drewN _) (own_far HO.out (fr_draws _ _ none) (fun _ _ => by simp)) (fr_both HG.out (fr_draws _ _ _)) hown4 hg4
            have HK4 := hide K4
            have HO4 := hide O4
            have HG4 := hide G4
            clear c0 c1 c2 c3 c4 c5 c6 f1 f2 f3 f4 f5 f6 K4 O4 G4 hown4 hg4
            obtain ⟨c0, c1, c2, c3, c4, c5, c6, f1, f2, f3, f4, f5, f6⟩ := HK4.out
            go_wp2
            go_roundw
            case rel => exact ⟨k + 1, out ++ [s[k]], by omega, by omega, by simp; omega, HK4.out.set1 _, own_far HO4.out (fr_set _ _ _ _) (fun g hg => by have := (own_blk HO4.out hg).1; simp; omega), fr_both HG4.out (fr_set _ _ _ _), HT2⟩
            case measure => rw [placeOf_set HK4.out.rd, HPL.out]; omega
    · have HT2 : Hid (textS s ⟨i, kd, tx, a, 0, x⟩ = ⟨k, kd, tx, a, 2, k⟩) := HTX.out _ (by rw [HT.out]; exact strGo_end s k (by omega) out)
      go_wp2_with fail
      go_quiet (fail)
      go_wp2_with fail
      go_quiet (fail)
      go_wp2_with fail
      refine (rfailS_any b s ⟨k, kd, tx, a, 0, x⟩ 2 k _ (HK.out.drewN _)).mono ?_
      rintro en w5 ⟨rfl, HN, HF⟩
      have HN5 : Hid (RP w5 b s (textS s ⟨i, kd, tx, a, 0, x⟩)) := by rw [HT2.out]; exact HN
      have HG5 : Hid (w.grownBy w5 (some b)) := fr_both (fr_both HG.out (fr_draws _ _ _)) HF.g
      clear HN HF
      go_wp2
      refine bodyPost_ret (results_none rfl _ _ _) rfl ?_
      exact ⟨rfl, HN5.out, HG5.out⟩
end Go.Proofs.YtgllfcoafgphbaaGreatDoor
