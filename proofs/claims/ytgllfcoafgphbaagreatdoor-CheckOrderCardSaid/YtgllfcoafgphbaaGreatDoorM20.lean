import Derived.Test.YtgllfcoafgphbaaGreatDoorM19
import Derived.Test.YtgllfcoafgphbaaGreatDoorM13
import Derived.Test.YtgllfcoafgphbaaGreatDoorM15
import Derived.Test.YtgllfcoafgphbaaGreatDoorM02
/-
  What the program's walks hand out first, and what the plain lists tell: the misfits, the unbound variables, the rings.
-/
namespace Go.Proofs.YtgllfcoafgphbaaGreatDoor
open Go.ChangeShapes Go.WideShapes Go.ChangeAt Go.RowKit Go.Hands
set_option linter.unusedVariables false
theorem count_keys (n : List UInt8) : ∀ (s : List BX) (f : List PAtom), s.map BX.key = f.map keyA → countX s n = countF f n
  | [], [], _ => rfl
  | [], _ :: _, h => by simp at h
  | _ :: _, [], h => by simp at h
  | x :: s, a :: f, h => by
    rw [List.map_cons, List.map_cons] at h
    injection h with h1 h2
    have ih := count_keys n s f h2
    unfold BX.key keyA at h1
    injection h1 with e1 e2
    injection e2 with e2 e3
    unfold countX countF at ih ⊢
    rw [List.find?_cons, List.find?_cons, e1]
    cases hq : (a.name == n)
    · exact ih
    · simp [e2]
theorem fold_keep (y : BX) (t : List BX) : ∀ (l : List BX) (s : List BX), ∃ u, ((l.foldl misStep (s, y :: t)).2) = y :: u
  | [], s => ⟨t, rfl⟩
  | x :: l, s => by
    rw [List.foldl_cons]
    unfold misStep
    cases hc : countX s x.name with
    | none => exact fold_keep y t l _
    | some c =>
      by_cases e : c = x.n
      · simp only [if_pos e]; exact fold_keep y t l _
      · simp only [if_neg e, List.cons_append]; exact fold_keep y (t ++ [x]) l _
theorem misX_head : ∀ (l : List BX) (m : List PAtom) (s : List BX) (f : List PAtom), l.map BX.key = m.map keyA → s.map BX.key = f.map keyA → ((l.foldl misStep (s, [])).2.head?).map BX.key = (arityFst f m).map keyA
  | [], [], s, f, _, _ => rfl
  | [], _ :: _, s, f, h, _ => by simp at h
  | _ :: _, [], s, f, h, _ => by simp at h
  | x :: l, a :: m, s, f, h, hs => by
    rw [List.map_cons, List.map_cons] at h
    injection h with h1 h2
    have hk := h1
    unfold BX.key keyA at h1
    injection h1 with e1 e2
    injection e2 with e2 e3
    have hc := count_keys a.name s f hs
    rw [List.foldl_cons]
    unfold arityFst misStep
    rw [e1, hc]
    cases hq : countF f a.name with
    | none => exact misX_head l m (s ++ [x]) (f ++ [a]) h2 (by simp [hs, hk])
    | some c =>
      by_cases e : c = x.n
      · have e' : ¬ (c != a.args.length) = true := by rw [← e2]; simp [e]
        simp only [if_pos e, if_neg e']
        exact misX_head l m s f h2 hs
      · have e' : (c != a.args.length) = true := by rw [← e2]; simp [e]
        simp only [if_neg e, if_pos e', List.nil_append]
        obtain ⟨u, hu⟩ := fold_keep x [] l s
        unfold misStep at hu
        rw [hu]
        simp [hk]
theorem keys_rule (r : PRule) (a : Value) (vs : List Value) (h : vs.length = r.body.length) : (ruleX r a vs).map BX.key = (atomsR r).map keyA := by
  unfold ruleX atomsR bodyAtoms
  rw [List.map_cons, List.map_cons, bodyX_keys _ _ h, List.map_map]
  congr 1
  have e : (fun p : PPart => p.kind == 0 || p.kind == 1) = fun p => decide (p.kind < 2) := by
    funext p
    rw [Bool.eq_iff_iff]; simp; omega
  rw [e]; rfl
theorem keys_all (rs : List PRule) (hs : List Value) (V : Nat → List Value) (hl : hs.length = rs.length) (hV : ∀ (i : Nat) (r : PRule), rs[i]? = some r → (V i).length = r.body.length) : ∀ k, k ≤ rs.length → (upto (LA rs hs V) k).map BX.key = (atomsAll (rs.take k)).map keyA
  | 0, _ => by simp [upto, atomsAll]
  | k + 1, hk => by
    have hlt : k < rs.length := hk
    have hlh : k < hs.length := by omega
    have e1 : rs[k]? = some rs[k] := List.getElem?_eq_getElem hlt
    have e2 : hs[k]? = some hs[k] := List.getElem?_eq_getElem hlh
    have e3 : LA rs hs V k = ruleX rs[k] hs[k] (V k) := by unfold LA; rw [e1, e2]
    rw [upto_succ, List.map_append, keys_all rs hs V hl hV k (by omega), e3, keys_rule _ _ _ (hV k _ e1), List.take_succ_eq_append_getElem hlt]
    unfold atomsAll
    rw [List.flatMap_append, List.map_append]; simp
/-- the first misfit's place -/
theorem mis_first (rs : List PRule) (hs : List Value) (V : Nat → List Value) (hl : hs.length = rs.length) (hV : ∀ (i : Nat) (r : PRule), rs[i]? = some r → (V i).length = r.body.length) :
    ((misX (upto (LA rs hs V) rs.length)).2.head?).map (·.place) = (arityF rs).map (·.place) := by
  have h := misX_head (upto (LA rs hs V) rs.length) (atomsAll rs) [] [] (by rw [keys_all rs hs V hl hV _ (Nat.le_refl _), List.take_length]) rfl
  rw [arity_fst] at h
  have h2 := congrArg (Option.map (fun q : List UInt8 × Nat × Nat => q.2.2)) h
  rw [Option.map_map, Option.map_map] at h2
  exact h2
/-- the first of what each rule has -/
theorem upto_head {α β : Type} (L : Nat → List α) (g : α → β) (rs : List PRule) (f : PRule → Option β) (h : ∀ (i : Nat) (r : PRule), rs[i]? = some r → ((L i).head?).map g = f r) : ∀ k, k ≤ rs.length → ((upto L k).head?).map g = (rs.take k).findSome? f
  | 0, _ => by simp [upto]
  | k + 1, hk => by
    have hlt : k < rs.length := hk
    rw [upto_succ, List.head?_append, List.take_succ_eq_append_getElem hlt, List.findSome?_append, ← upto_head L g rs f h k (by omega)]
    have e := h k _ (List.getElem?_eq_getElem hlt)
    cases hq : (upto L k).head? with
    | some a => simp
    | none => simp [e]
theorem unb_head (r : PRule) : (unbL r.head.args r.body).head? = safeR r := by
  unfold unbL safeR looseF wantsF wantsL
  rw [List.head?_filter]
theorem unb_first (rs : List PRule) (L : Nat → List PTerm) (h : ∀ (i : Nat) (r : PRule), rs[i]? = some r → L i = unbL r.head.args r.body) : (upto L rs.length).head? = safeF rs := by
  have := upto_head L id rs safeR (fun i r hr => by rw [h i r hr, unb_head]; simp) rs.length (Nat.le_refl _)
  rw [List.take_length] at this
  simpa [safeF] using this
theorem ring_head (q : List UInt8 → Bool) : ∀ (ps : List PPart) (vs : List Value), vs.length = ps.length → ((((bodyX ps vs).filter fun x => x.kind == 1 && q x.name).head?).map (·.place)) = (ps.find? fun p => p.kind == 1 && q p.atom.name).map (·.atom.place)
  | [], vs, _ => by simp [bodyX]
  | p :: ps, [], h => by simp at h
  | p :: ps, v :: vs, h => by
    have ih := ring_head q ps vs (by simpa using h)
    unfold bodyX at ih ⊢
    rw [List.zip_cons_cons, List.filter_cons, List.find?_cons]
    by_cases hk : (p.kind == 0 || p.kind == 1) = true
    · rw [if_pos (by exact hk), List.map_cons, List.filter_cons]
      by_cases hq : (p.kind == 1 && q p.atom.name) = true
      · rw [if_pos (by exact hq), hq]; rfl
      · rw [if_neg (by exact hq)]
        rw [show (p.kind == 1 && q p.atom.name) = false by simpa using hq]
        exact ih
    · rw [if_neg (by exact hk)]
      rw [show (p.kind == 1 && q p.atom.name) = false by simp at hk; simp [hk.2]]
      exact ih
end Go.Proofs.YtgllfcoafgphbaaGreatDoor

/-
  The program's check.circular, walked, and what it hands out first.
-/
namespace Go.Proofs.YtgllfcoafgphbaaGreatDoor
open Go.ChangeShapes Go.WideShapes Go.ChangeAt Go.RowKit Go.Hands Go.WideMaps Go.Maps
set_option linter.unusedVariables false
attribute [local go_sem] Oper.semAt_some
open Classical in
noncomputable def ringQ (rs : List PRule) (h n : List UInt8) : Bool := decide (Hangs rs n h)
noncomputable def ringL (rs : List PRule) (V : Nat → List Value) (i : Nat) : List BX := match rs[i]? with
  | some r => (bodyX r.body (V i)).filter fun x => x.kind == 1 && ringQ rs r.head.name x.name
  | none => []
theorem hangs_head {rs : List PRule} {a b : List UInt8} (h : Hangs rs a b) : headsX rs a = true := by
  have e : ∀ {c}, Edge rs a c → headsX rs a = true := fun e => by
    obtain ⟨k, _, r, hr, ha, _⟩ := e
    exact List.any_eq_true.2 ⟨r, hr, by simpa using ha⟩
  cases h with
  | one h => exact e h
  | more h _ => exact e h
theorem findSome_map {α β γ : Type} (f : α → Option β) (g : β → γ) : ∀ (l : List α), (l.findSome? f).map g = l.findSome? (fun a => (f a).map g)
  | [] => rfl
  | a :: l => by
    rw [List.findSome?_cons, List.findSome?_cons]
    cases f a with
    | some b => rfl
    | none => exact findSome_map f g l
theorem ring_first (rs : List PRule) (V : Nat → List Value) (hV : ∀ (i : Nat) (r : PRule), rs[i]? = some r → (V i).length = r.body.length) : ((upto (ringL rs V) rs.length).head?).map (·.place) = (ringF rs).map (·.atom.place) := by
  rw [ringF, findSome_map]
  have h := upto_head (ringL rs V) (·.place) rs (fun r => (ringR rs r).map (·.atom.place)) (fun i r hr => by
    have e : ringL rs V i = (bodyX r.body (V i)).filter fun x => x.kind == 1 && ringQ rs r.head.name x.name := by unfold ringL; rw [hr]
    rw [e, ring_head (ringQ rs r.head.name) r.body (V i) (hV i r hr)]
    unfold ringR
    congr 2
    funext p
    rw [Bool.eq_iff_iff]
    simp [ringQ]) rs.length (Nat.le_refl _)
  rwa [List.take_length] at h
set_option maxRecDepth 100000 in
set_option maxHeartbeats 1000000 in
theorem circ1_any (name : ByteArray) (ha : Option Addr) (hn hc : Nat) (place : Int) (ba : Option Addr) (bn bc Ba : Nat) (w : World) :
    Calls Tryz.prog 65 #[.agg #[.string name, .slice ha hn hc, .int .i64 place, .slice ba bn bc], .pointer (some ⟨Ba, 0, none⟩)] w fun e w' => e = .returned (.func (.func 66) #[] #[.pointer (some ⟨w.heap.size, 0, none⟩), .pointer (some ⟨Ba, 0, none⟩)]) ∧ w' = w.alloc (.cells #[.string name, .slice ha hn hc, .int .i64 place, .slice ba bn bc] 112) := by
  go_enter Tryz.func65, Tryz.ntmps65
  go_wp2
  go_ret
  exact ⟨rfl, rfl⟩
theorem bodyNames_lenC (c : Nat) : ∀ (rs : List PRule), (∀ r ∈ rs, r.body.length ≤ c) → (bodyNames rs).length ≤ rs.length * c
  | [], _ => by simp [bodyNames]
  | r :: rs, h => by
    have ih := bodyNames_lenC c rs (fun x hx => h x (List.mem_cons_of_mem _ hx))
    have h1 := h r (List.mem_cons_self ..)
    unfold bodyNames at ih ⊢
    rw [List.flatMap_cons, List.length_append, List.length_map, List.length_cons, Nat.add_mul, Nat.one_mul]
    omega
set_option maxRecDepth 100000 in
set_option maxHeartbeats 4000000 in
theorem circular_any (base : Nat) (v : Value) (rs : List PRule) (hs bs : List Value) (V : Nat → List Value) (w : World)
    (hrules : RulesAt 76 164 112 base w v rs hs bs)
    (hV : ∀ (i : Nat) (r : PRule) (u : Value), rs[i]? = some r → bs[i]? = some u → PartsAt 76 164 base w u r.body (V i))
    (hrl : rs.length ≤ 1000) (hr : ∀ r ∈ rs, r.body.length ≤ 1000 ∧ r.head.name.length ≤ 1000000 ∧ ∀ p ∈ r.body, p.kind ≤ 1000 ∧ p.atom.name.length ≤ 1000000) :
    Calls Tryz.prog 34 #[v] w fun e w' => (∃ (lb : Array Value), e = .returned (.func (.func 78) #[] lb) ∧ ∀ m, Hands Fence.wide m Tryz.prog 78 lb (fun x : BX => #[x.atomV]) (fun _ => False) (fun ys => ys = upto (ringL rs V) rs.length) (fun pre => pre <+: upto (ringL rs V) rs.length) w') ∧ Below w.heap.size w w' := by
  have HDI := hide (direct_any base v rs hs bs V w hrules hV hrl (fun r hr2 => ⟨by have := (hr r hr2).1; omega, (hr r hr2).2.1, (hr r hr2).2.2⟩))
  have hvv := own_slice hrules.own
  obtain ⟨va, HVA⟩ : ∃ a, Hid (a = sliceA v) := ⟨_, rfl⟩
  obtain ⟨vc, HVC⟩ : ∃ c, Hid (c = sliceC v) := ⟨_, rfl⟩
  rw [← HVA.out, ← HVC.out] at hvv
  have HRL := hide hrules
  have HVV := hide hV
  have HR := hide hr
  have HBN : Hid ((bodyNames rs).length ≤ 1000000) := by
    have h1 := bodyNames_lenC 1000 rs (fun r hr2 => (hr r hr2).1)
    have h2 : rs.length * 1000 ≤ 1000 * 1000 := Nat.mul_le_mul_right _ hrl
    exact Nat.le_trans h1 h2
  have HNM : Hid (∀ x ∈ bodyNames rs, x.length ≤ 1000000) := by
    intro x hx
    unfold bodyNames at hx
    obtain ⟨r, hr2, hx2⟩ := List.mem_flatMap.1 hx
    obtain ⟨p, hp, rfl⟩ := List.mem_map.1 hx2
    exact ((hr r hr2).2.2 p hp).2
  have HHL : Hid (∀ k, headsX rs k = true → k.length ≤ 1000000) := by
    intro k hk
    obtain ⟨r, hr2, e⟩ := List.any_eq_true.1 hk
    have e2 : r.head.name = k := by simpa using e
    rw [← e2]; exact (hr r hr2).2.1
  clear hrules hV hr
  rw [hvv] at HDI
  rw [hvv]
  go_enter Tryz.func34, Tryz.ntmps34
  go_wp2_with fail
  refine HDI.out.mono ?_
  rintro e w1 ⟨nn, D, bf, rfl, hg, hlo, hb1, hnn⟩
  have HB1 := hide hb1
  have HCL := hide (closed_any rs w.heap.size nn D (headsX rs) bf w1 HBN.out HNM.out (fun k hk => under_none hk) HHL.out (by omega) hg)
  clear hg hlo hb1 HDI
  go_wp2_with fail
  refine HCL.out.mono ?_
  rintro e w2 ⟨rfl, ⟨n2, D2, S2, bf2, hd⟩, hb2⟩
  have HD2 := hide hd
  have HB2 : Hid (Below w.heap.size w w2) := HB1.out.trans (hb2.mono HB1.out.size)
  obtain ⟨A, HA⟩ : ∃ A, Hid (A = w1.heap.size) := ⟨_, rfl⟩
  rw [← HA.out] at HD2
  rw [← HA.out]
  clear hd hb2 HCL
  obtain ⟨w3, HW3⟩ : ∃ w3, Hid (w3 = w2.alloc (.cells #[.map (some A)] 126)) := ⟨_, rfl⟩
  have hw3 := HW3.out.symm
  have HR3 : Hid (Rnd (fun _ => False) w2 w3) := by rw [HW3.out]; exact (Rnd.refl _ _).alloc _
  have a3 : w3.cell? ⟨w2.heap.size, 0, none⟩ = some (.map (some A)) := by rw [HW3.out, World.cell?_alloc_at _ _ _ _ rfl]; rfl
  have HG3 : Hid (Hang w3 A n2 D2 (headsX rs) S2 bf2) := HD2.out.hang.rnd HR3.out (fun h => h) (fun _ _ h => h)
  have HB3 : Hid (Below w.heap.size w w3) := HB2.out.trans (HR3.out.below HB2.out.size (fun _ h => h.elim))
  go_wp2_with fail
  clear hw3 HW3
  refine (each_any _ va rs.length vc 65 #[.pointer (some ⟨w2.heap.size, 0, none⟩)] w3 rfl).mono ?_
  rintro e W4 ⟨rfl, hW4⟩
  have HR4 : Hid (Rnd (fun _ => False) w3 W4) := by rw [hW4]; exact ((Rnd.refl _ _).alloc _).alloc _
  have b4 : W4.cell? ⟨w3.heap.size, 0, none⟩ = some v := by
    rw [hW4, hvv]
    have h1 : Rnd (fun _ => False) (w3.alloc (.cells #[.slice va rs.length vc] 52)) ((w3.alloc (.cells #[.slice va rs.length vc] 52)).alloc (.cells #[.func (.func 65) #[] #[.pointer (some ⟨w2.heap.size, 0, none⟩)]] 99)) := (Rnd.refl _ _).alloc _
    exact h1.cell (by rw [World.cell?_alloc_at _ _ _ _ rfl]; rfl) (fun h => h)
  have o4 : W4.cell? ⟨w3.heap.size + 1, 0, none⟩ = some (.func (.func 65) #[] #[.pointer (some ⟨w2.heap.size, 0, none⟩)]) := by
    rw [hW4, World.cell?_alloc_at _ _ _ _ (by simp)]; rfl
  have a4 := HR4.out.cell a3 (fun h => h)
  have HG4 : Hid (Hang W4 A n2 D2 (headsX rs) S2 bf2) := HG3.out.rnd HR4.out (fun h => h) (fun _ _ h => h)
  have HB4 : Hid (Below w.heap.size w W4) := HB3.out.trans (HR4.out.below HB3.out.size (fun _ h => h.elim))
  clear hW4 a3
  go_wp2
  go_ret
  refine ⟨⟨_, rfl, fun m => ?_⟩, HB4.out⟩
  refine Hands.any (each_hands 30 base w3.heap.size (w3.heap.size + 1) w.heap.size 65 #[.pointer (some ⟨w2.heap.size, 0, none⟩)] v rs hs bs (fun _ => False) w W4 (ringL rs V) (Rnd.of_below HB4.out) b4 o4 HRL.out (fun g hg => own_lt HRL.out.own hg) (fun _ h => h.elim) (by omega) (by omega) (enters_of Tryz.func65 (by kernel_rfl) rfl) ?_) m
  intro i r aa ac ba bc W hr ha hb hW
  have hmem : r ∈ rs := List.mem_of_getElem? hr
  have hp := HVV.out i r _ hr hb
  have hL : ringL rs V i = (bodyX r.body (V i)).filter fun x => x.kind == 1 && ringQ rs r.head.name x.name := by unfold ringL; rw [hr]
  refine (circ1_any (str r.head.name) aa r.head.args.length ac (r.head.place : Nat) ba r.body.length bc w2.heap.size W).mono ?_
  rintro e W' ⟨rfl, rfl⟩
  refine ⟨_, _, rfl, (Rnd.refl _ _).alloc _, enters_of Tryz.func66 (by kernel_rfl) rfl, fun m => ?_⟩
  rw [hL]
  have hWa : Rnd (fun _ => False) W4 (W.alloc (.cells #[.string (str r.head.name), .slice aa r.head.args.length ac, .int .i64 (r.head.place : Nat), .slice ba r.body.length bc] 112)) := hW.alloc _
  obtain ⟨hr1, hr2, hr3⟩ := HR.out r hmem
  refine Hands.any (circ_hands 30 base W.heap.size w2.heap.size r.head.name aa r.head.args.length ac r.head.place (.slice ba r.body.length bc) r.body (V i) A n2 D2 (headsX rs) S2 bf2 (fun x => x.kind == 1 && ringQ rs r.head.name x.name) w _ ((Rnd.of_below HB4.out).trans hWa) ⟨?_, ?_, ?_, ?_⟩ (hWa.cell a4 (fun h => h)) (HG4.out.rnd hWa (fun h => h) (fun _ _ h => h)) hp (fun x => ?_) (by omega) hr3 hr2 (by omega)) m
  · rw [World.cell?_alloc_at _ _ _ _ rfl]; rfl
  · rw [World.cell?_alloc_at _ _ _ _ rfl]; rfl
  · rw [World.cell?_alloc_at _ _ _ _ rfl]; rfl
  · rw [World.cell?_alloc_at _ _ _ _ rfl]; rfl
  · have e : ringQ rs r.head.name x.name = (headsX rs x.name && decide (r.head.name ∈ S2 x.name)) := by
      rw [Bool.eq_iff_iff]
      simp only [ringQ, decide_eq_true_eq, Bool.and_eq_true]
      exact ⟨fun h => ⟨hangs_head h, (HD2.out.all _ (hangs_head h) _).2 h⟩, fun h => (HD2.out.all _ h.1 _).1 h.2⟩
    rw [e]
end Go.Proofs.YtgllfcoafgphbaaGreatDoor

/-
  Chapter 4's one form in plain lists: D3, D4. Nothing of the program.
-/
namespace Go.Proofs.YtgllfcoafgphbaaGreatDoor
set_option linter.unusedVariables false
/-- a byte within a STRING -/
def escB (c : UInt8) : List UInt8 := if c = 34 then [92, 34] else if c = 92 then [92, 92] else if c = 10 then [92, 110] else [c]
def escF (l : List UInt8) : List UInt8 := l.flatMap escB
theorem escF_snoc (l : List UInt8) (c : UInt8) : escF (l ++ [c]) = escF l ++ escB c := by simp [escF]
theorem escB_len (c : UInt8) : (escB c).length ≤ 2 := by unfold escB; split <;> (try split) <;> (try split) <;> simp
theorem escF_len (l : List UInt8) : (escF l).length ≤ 2 * l.length := by
  induction l with
  | nil => simp [escF]
  | cons c l ih => have := escB_len c; simp only [escF, List.flatMap_cons, List.length_append, List.length_cons] at *; omega
/-- D3 -/
def constF (l : List UInt8) : List UInt8 := if isName l || isDigB l then l else [34] ++ escF l ++ [34]
theorem constF_len (l : List UInt8) : (constF l).length ≤ 2 * l.length + 2 := by
  unfold constF
  split
  · omega
  · have := escF_len l; simp; omega
/-- things with commas between -/
def commaF {α : Type} (f : α → List UInt8) : List α → List UInt8
  | [] => []
  | [x] => f x
  | x :: y :: r => f x ++ [44, 32] ++ commaF f (y :: r)
theorem commaF_snoc {α : Type} (f : α → List UInt8) (x : α) : ∀ xs : List α, commaF f (xs ++ [x]) = if xs.length = 0 then f x else commaF f xs ++ [44, 32] ++ f x := by
  intro xs
  induction xs with
  | nil => rfl
  | cons y ys ih =>
    cases ys with
    | nil => simp [commaF]
    | cons z zs =>
      have : commaF f (z :: zs ++ [x]) = commaF f (z :: zs) ++ [44, 32] ++ f x := by rw [ih]; simp
      show f y ++ [44, 32] ++ commaF f (z :: zs ++ [x]) = _
      rw [this]
      simp [commaF]
/-- with commas ahead, too: what 'listed' has written behind k things -/
theorem commaF_take {α : Type} (f : α → List UInt8) (l : List α) (k : Nat) (h : k < l.length) : commaF f (l.take (k + 1)) = if k = 0 then f l[k] else commaF f (l.take k) ++ [44, 32] ++ f l[k] := by
  rw [List.take_succ_eq_append_getElem h, commaF_snoc]
  rw [List.length_take, Nat.min_eq_left (by omega)]
def termTextF (t : PTerm) : List UInt8 := if t.isVar then t.text else constF t.text
def atomTextF (a : PAtom) : List UInt8 := a.name ++ (if a.args.length = 0 then [] else [40] ++ commaF termTextF a.args ++ [41])
def signTextF (k : Nat) : List UInt8 := if k = 2 then [61] else if k = 3 then [33, 61] else [60]
def partTextF (p : PPart) : List UInt8 := if p.kind = 0 then atomTextF p.atom else if p.kind = 1 then [110, 111, 116, 32] ++ atomTextF p.atom else termTextF p.left ++ [32] ++ signTextF p.kind ++ [32] ++ termTextF p.right
def ruleTextF (r : PRule) : List UInt8 := atomTextF r.head ++ (if r.body.length = 0 then [] else [32, 58, 45, 32] ++ commaF partTextF r.body) ++ [46, 10]
def rulesTextF (rs : List PRule) : List UInt8 := rs.flatMap ruleTextF
theorem rulesTextF_take (rs : List PRule) (k : Nat) (h : k < rs.length) : rulesTextF (rs.take (k + 1)) = rulesTextF (rs.take k) ++ ruleTextF rs[k] := by
  rw [List.take_succ_eq_append_getElem h]; unfold rulesTextF; rw [List.flatMap_append, List.flatMap_singleton]
/-- D4 -/
def printF (l : List UInt8) : Except PErr (List UInt8) := match parseF l with
  | .error e => .error e
  | .ok rs => .ok (rulesTextF rs)
end Go.Proofs.YtgllfcoafgphbaaGreatDoor

/-
  A text with bytes ahead of it: the same signs, further on. Plain lists; nothing of the program.
-/
namespace Go.Proofs.YtgllfcoafgphbaaGreatDoor
set_option linter.unusedVariables false
def shX (d : Nat) {α : Type} (f : α → α) : Except PErr (α × Nat) → Except PErr (α × Nat)
  | .error (e, x) => .error (e, d + x)
  | .ok (a, q) => .ok (f a, d + q)
def shT (d : Nat) (t : PTerm) : PTerm := ⟨t.isVar, t.text, d + t.place⟩
def shA (d : Nat) (a : PAtom) : PAtom := ⟨a.name, a.args.map (shT d), d + a.place⟩
def shP (d : Nat) (p : PPart) : PPart := if p.kind < 2 then ⟨p.kind, shA d p.atom, p.left, p.right⟩ else ⟨p.kind, p.atom, shT d p.left, shT d p.right⟩
def shR (d : Nat) (r : PRule) : PRule := ⟨shA d r.head, r.body.map (shP d)⟩
theorem drop_pre (pre l : List UInt8) (p : Nat) : (pre ++ l).drop (pre.length + p) = l.drop p := by
  rw [List.drop_append]; simp
theorem skip_pre (pre l : List UInt8) (p : Nat) : skipTo (pre ++ l) (pre.length + p) = pre.length + skipTo l p := by
  unfold skipTo; rw [drop_pre]; omega
theorem word_pre (pre l : List UInt8) (p : Nat) : wordAt (pre ++ l) (pre.length + p) = wordAt l p := by unfold wordAt; rw [drop_pre]
theorem starts_pre (pre l : List UInt8) (p : Nat) (sg : List UInt8) : starts (pre ++ l) (pre.length + p) sg = starts l p sg := by unfold starts; rw [drop_pre]
theorem name_pre (pre l : List UInt8) (p : Nat) : atNameB (pre ++ l) (pre.length + p) = atNameB l p := by unfold atNameB; rw [word_pre]
theorem term_pre0 (pre l : List UInt8) (p : Nat) : atTermB (pre ++ l) (pre.length + p) = atTermB l p := by unfold atTermB; rw [word_pre, starts_pre]
theorem part_pre0 (pre l : List UInt8) (p : Nat) : atPartB (pre ++ l) (pre.length + p) = atPartB l p := by unfold atPartB; rw [word_pre, term_pre0]
theorem sign_pre (pre l : List UInt8) (sg : List UInt8) (p : Nat) : signF (pre ++ l) sg (pre.length + p) = (signF l sg p).map (pre.length + ·) := by
  unfold signF
  rw [starts_pre]
  split
  · rw [Nat.add_assoc, skip_pre]; rfl
  · rfl
theorem str_pre (d : Nat) (l : List UInt8) : ∀ (n p : Nat) (acc : List UInt8), l.length ≤ n → strGo l (d + p) acc = shX d id (strGo l p acc) := by
  intro n
  induction n generalizing l with
  | zero => intro p acc h; cases l with
    | nil => unfold strGo; rfl
    | cons c t => simp at h
  | succ n ih =>
    intro p acc h
    cases l with
    | nil => unfold strGo; rfl
    | cons c t =>
      unfold strGo
      by_cases h1 : c = 34
      · rw [if_pos h1, if_pos h1]; rfl
      · rw [if_neg h1, if_neg h1]
        by_cases h2 : c = 10
        · rw [if_pos h2, if_pos h2]; rfl
        · rw [if_neg h2, if_neg h2]
          by_cases h3 : c = 92
          · rw [if_pos h3, if_pos h3]
            cases t with
            | nil => rfl
            | cons e t2 =>
              simp only []
              by_cases h4 : e = 110
              · rw [if_pos h4, if_pos h4, Nat.add_assoc]; exact ih t2 (p + 2) _ (by simp at h; omega)
              · rw [if_neg h4, if_neg h4]
                by_cases h5 : e = 34 ∨ e = 92
                · rw [if_pos h5, if_pos h5, Nat.add_assoc]; exact ih t2 (p + 2) _ (by simp at h; omega)
                · rw [if_neg h5, if_neg h5]; rfl
          · rw [if_neg h3, if_neg h3, Nat.add_assoc]; exact ih t (p + 1) _ (by simpa using h)
theorem termF_pre (pre l : List UInt8) (p : Nat) : termF (pre ++ l) (pre.length + p) = shX pre.length (shT pre.length) (termF l p) := by
  unfold termF
  rw [starts_pre, term_pre0, word_pre]
  by_cases h1 : starts l p [34] = true
  · rw [if_pos h1, if_pos h1, Nat.add_assoc, drop_pre, str_pre _ _ _ _ _ (Nat.le_refl _)]
    cases strGo (l.drop (p + 1)) (p + 1) [] with
    | error e => obtain ⟨e, x⟩ := e; rfl
    | ok v =>
      obtain ⟨o, q⟩ := v
      simp only [shX, id]
      split
      · rfl
      · rw [skip_pre]; rfl
  · rw [if_neg h1, if_neg h1]
    split
    · rw [Nat.add_assoc, skip_pre]; rfl
    · rfl
theorem listF_pre {α : Type} (d : Nat) (f : α → α) (bg bg' : Nat → Bool) (one one' : Nat → Except PErr (α × Nat)) (go go' : Nat → Option Nat) (h1 : ∀ p, bg' (d + p) = bg p) (h2 : ∀ p, one' (d + p) = shX d f (one p)) (h3 : ∀ p, go' (d + p) = (go p).map (d + ·)) :
    ∀ (n p : Nat), listF bg' one' go' n (d + p) = shX d (List.map f) (listF bg one go n p) := by
  intro n
  induction n with
  | zero => intro p; unfold listF; rw [h1]; split <;> rfl
  | succ n ih =>
    intro p
    unfold listF
    rw [h1, h2]
    split
    · cases one p with
      | error e => obtain ⟨e, x⟩ := e; rfl
      | ok v =>
        obtain ⟨x, q⟩ := v
        simp only [shX]
        rw [h3]
        cases go q with
        | none => rfl
        | some r =>
          simp only [Option.map]
          rw [ih]
          cases listF bg one go n r with
          | error e => obtain ⟨e, x⟩ := e; rfl
          | ok v => obtain ⟨xs, r2⟩ := v; rfl
    · rfl
theorem atomF_pre (pre l : List UInt8) (p : Nat) : atomF (pre ++ l) (pre.length + p) = shX pre.length (shA pre.length) (atomF l p) := by
  unfold atomF
  rw [name_pre, word_pre, Nat.add_assoc, skip_pre, sign_pre]
  split
  · cases signF l [40] (skipTo l (p + (wordAt l p).length)) with
    | none => rfl
    | some q =>
      simp only [Option.map]
      rw [listF_pre pre.length (shT pre.length) (atTermB l) (atTermB (pre ++ l)) (termF l) (termF (pre ++ l)) (signF l [44]) (signF (pre ++ l) [44]) (term_pre0 pre l) (termF_pre pre l) (sign_pre pre l [44])]
      cases listF (atTermB l) (termF l) (signF l [44]) 8 q with
      | error e => obtain ⟨e, x⟩ := e; rfl
      | ok v =>
        obtain ⟨xs, r⟩ := v
        simp only [shX]
        rw [sign_pre]
        cases signF l [41] r with
        | none => rfl
        | some r2 => rfl
  · rfl
theorem compF_pre (pre l : List UInt8) (p : Nat) : compF (pre ++ l) (pre.length + p) = (compF l p).map (fun kq => (kq.1, pre.length + kq.2)) := by
  unfold compF
  rw [sign_pre, sign_pre, sign_pre]
  cases signF l [61] p with
  | some q => rfl
  | none =>
    simp only [Option.map]
    cases signF l [33, 61] p with
    | some q => rfl
    | none =>
      simp only []
      cases signF l [60] p with
      | some q => rfl
      | none => rfl
theorem compF_kind (l : List UInt8) (p k q : Nat) (h : compF l p = some (k, q)) : k = 2 ∨ k = 3 ∨ k = 4 := by
  unfold compF at h
  split at h
  · cases h; simp
  · split at h
    · cases h; simp
    · split at h
      · cases h; simp
      · cases h
theorem partF_pre (pre l : List UInt8) (p : Nat) : partF (pre ++ l) (pre.length + p) = shX pre.length (shP pre.length) (partF l p) := by
  unfold partF
  rw [word_pre, name_pre, Nat.add_assoc, skip_pre, Nat.add_assoc, skip_pre, compF_pre]
  by_cases h1 : wordAt l p = [110, 111, 116]
  · rw [if_pos h1, if_pos h1, atomF_pre]
    cases atomF l (skipTo l (p + 3)) with
    | error e => obtain ⟨e, x⟩ := e; rfl
    | ok v => obtain ⟨a, q⟩ := v; rfl
  · rw [if_neg h1, if_neg h1, Option.isNone_map]
    split
    · rw [atomF_pre]
      cases atomF l p with
      | error e => obtain ⟨e, x⟩ := e; rfl
      | ok v => obtain ⟨a, q⟩ := v; rfl
    · rw [termF_pre]
      cases termF l p with
      | error e => obtain ⟨e, x⟩ := e; rfl
      | ok v =>
        obtain ⟨t, q⟩ := v
        simp only [shX]
        rw [compF_pre]
        cases hc : compF l q with
        | none => rfl
        | some kq =>
          obtain ⟨k, r⟩ := kq
          simp only [Option.map]
          rw [termF_pre]
          cases termF l r with
          | error e => obtain ⟨e, x⟩ := e; rfl
          | ok v =>
            obtain ⟨u, r2⟩ := v
            simp only [shX, shP]
            rw [if_neg (by rcases compF_kind l q k r hc with rfl | rfl | rfl <;> decide)]
theorem ruleF_pre (pre l : List UInt8) (p : Nat) : ruleF (pre ++ l) (pre.length + p) = shX pre.length (shR pre.length) (ruleF l p) := by
  unfold ruleF
  rw [atomF_pre]
  cases atomF l p with
  | error e => obtain ⟨e, x⟩ := e; rfl
  | ok v =>
    obtain ⟨h, q⟩ := v
    simp only [shX]
    rw [sign_pre]
    cases signF l [58, 45] q with
    | none =>
      simp only [Option.map]
      rw [sign_pre]
      cases signF l [46] q with
      | none => rfl
      | some r => rfl
    | some r =>
      simp only [Option.map]
      unfold partsF
      rw [listF_pre pre.length (shP pre.length) (atPartB l) (atPartB (pre ++ l)) (partF l) (partF (pre ++ l)) (signF l [44]) (signF (pre ++ l) [44]) (part_pre0 pre l) (partF_pre pre l) (sign_pre pre l [44])]
      cases listF (atPartB l) (partF l) (signF l [44]) 12 r with
      | error e => obtain ⟨e, x⟩ := e; rfl
      | ok v =>
        obtain ⟨b, r1⟩ := v
        simp only [shX]
        rw [sign_pre]
        cases signF l [46] r1 with
        | none => rfl
        | some r => rfl
def endF (l : List UInt8) (p : Nat) : Option Nat := if p = l.length then none else some p
theorem end_pre (pre l : List UInt8) (p : Nat) : endF (pre ++ l) (pre.length + p) = (endF l p).map (pre.length + ·) := by
  unfold endF
  rw [List.length_append]
  by_cases h : p = l.length
  · rw [if_pos h, if_pos (by omega)]; rfl
  · rw [if_neg h, if_neg (by omega)]; rfl
theorem rules_pre (pre l : List UInt8) (n p : Nat) : listF (atNameB (pre ++ l)) (ruleF (pre ++ l)) (endF (pre ++ l)) n (pre.length + p) = shX pre.length (List.map (shR pre.length)) (listF (atNameB l) (ruleF l) (endF l) n p) :=
  listF_pre pre.length (shR pre.length) (atNameB l) (atNameB (pre ++ l)) (ruleF l) (ruleF (pre ++ l)) (endF l) (endF (pre ++ l)) (name_pre pre l) (ruleF_pre pre l) (end_pre pre l) n p
theorem parseF_end (l : List UInt8) : parseF l = if 20000 < l.length then .error (1, 0) else if skipTo l 0 = l.length then .ok [] else match listF (atNameB l) (ruleF l) (endF l) 200 (skipTo l 0) with
    | .error e => .error e
    | .ok (rs, _) => .ok rs := rfl
/-- bytes ahead that are gone over -/
theorem parse_pre (pre l : List UInt8) (h : skipGo false (pre ++ l) = pre.length + skipGo false l) (hl : (pre ++ l).length ≤ 20000) : parseF (pre ++ l) = match parseF l with
    | .error (e, x) => .error (e, pre.length + x)
    | .ok rs => .ok (rs.map (shR pre.length)) := by
  have hs : skipTo (pre ++ l) 0 = pre.length + skipTo l 0 := by unfold skipTo; simp only [List.drop_zero, Nat.zero_add]; exact h
  have hl2 : ¬ 20000 < l.length := by rw [List.length_append] at hl; omega
  rw [parseF_end, parseF_end, if_neg (by omega), if_neg hl2, hs]
  by_cases he : skipTo l 0 = l.length
  · rw [if_pos he, if_pos (by rw [List.length_append]; omega)]; rfl
  · rw [if_neg he, if_neg (by rw [List.length_append]; omega), rules_pre]
    cases listF (atNameB l) (ruleF l) (endF l) 200 (skipTo l 0) with
    | error e => obtain ⟨e, x⟩ := e; rfl
    | ok v => obtain ⟨rs, q⟩ := v; rfl
theorem termText_sh (d : Nat) (t : PTerm) : termTextF (shT d t) = termTextF t := rfl
theorem comma_map {α : Type} (f : α → List UInt8) (g : α → α) (h : ∀ x, f (g x) = f x) : ∀ l : List α, commaF f (l.map g) = commaF f l := by
  intro l
  induction l with
  | nil => rfl
  | cons x l ih =>
    cases l with
    | nil => simp [commaF, h]
    | cons y r =>
      simp only [List.map_cons, commaF, h]
      rw [List.map_cons] at ih
      rw [ih]
theorem atomText_sh (d : Nat) (a : PAtom) : atomTextF (shA d a) = atomTextF a := by
  unfold atomTextF shA
  simp only [List.length_map]
  rw [comma_map termTextF (shT d) (termText_sh d)]
theorem partText_sh (d : Nat) (p : PPart) : partTextF (shP d p) = partTextF p := by
  unfold shP
  split
  · unfold partTextF; simp only [atomText_sh]
  · unfold partTextF; simp only [termText_sh]
theorem ruleText_sh (d : Nat) (r : PRule) : ruleTextF (shR d r) = ruleTextF r := by
  unfold ruleTextF shR
  simp only [atomText_sh, List.length_map]
  rw [comma_map partTextF (shP d) (partText_sh d)]
theorem rulesText_sh (d : Nat) (rs : List PRule) : rulesTextF (rs.map (shR d)) = rulesTextF rs := by
  unfold rulesTextF; rw [List.flatMap_map]; simp only [ruleText_sh]
end Go.Proofs.YtgllfcoafgphbaaGreatDoor
