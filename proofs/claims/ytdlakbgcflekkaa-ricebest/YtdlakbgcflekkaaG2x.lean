/- Own text: recipes and lists that came in as arguments, opened. how many bits a recipe takes; Best takes the fewest. -/
import Derived.Test.YtdlakbgcflekkaaQ8awake
import Derived.ProofKit
import Derived.OpenShut
import Derived.Deep.Slices
import Derived.Lib.SmallJoins
import Derived.ChangeSlices
import Derived.Test.YtdlakbgcflekkaaQ8all
namespace Go.Proofs.Ytdlakbgcflekkaa
open Go.ChangeShapes Go.WideShapes Go.ChangeAt Go.RowKit Go.Deep
set_option linter.unusedSimpArgs false
set_option linter.unusedVariables false

theorem acells3 : Try.prog.cellsOf 3 = 1 := by kernel_rfl
theorem acellsI : Try.prog.cellsOf 22 = 1 := by kernel_rfl
theorem acellsR : Try.prog.cellsOf 24 = 4 := by kernel_rfl
theorem acellsT : Try.prog.cellsOf 25 = 2 := by kernel_rfl
theorem abytes3 : Try.prog.bytesOf 3 = 8 := by kernel_rfl
theorem aundT : Try.prog.underlying 25 = some (.array 2 3) := by kernel_rfl
section
variable {H : Type} {enc : TypeId × Value → H} {w : World} {base base2 : Nat} {held : Bool}
theorem at_spot {a : Addr} {v : Value} (h : w.cell? (a.add 0) = some v) : ∃ b off, a = ⟨b, off, none⟩ := by
  obtain ⟨b, off, spot⟩ := a
  cases spot with
  | none => exact ⟨b, off, rfl⟩
  | some x =>
    exfalso
    unfold Addr.add World.cell? at h
    split at h <;> simp at h
/-- A list of numbers, opened. -/
theorem open_row {fuel : Nat} {cs : List Value} {x : DataW H × List MemPlace} (h : DataW.trod enc Try.prog w base (fun _ => true) held fuel 22 cs = some x) (hw : ∀ n ∈ x.1.weights Try.prog 22, n ≤ reachBytes) :
    ∃ (ao : Option Addr) (cap : Nat) (l : List Int), cs = [.slice ao l.length cap] ∧ IntsAt w ao l ∧ l.length ≤ cap ∧ (ao = none → cap = 0) := by
  rcases open_ints Try.underlying22 Try.underlying3 acells3 h with ⟨rfl, rfl⟩ | ⟨a, len, cap, zs, rfl, _, hl, hm, hz, hx, hc, hwf⟩
  · exact ⟨none, 0, [], rfl, ⟨by simp, fun n hn => absurd hn (by simp), fun h => absurd h (by simp)⟩, Nat.le_refl _, fun _ => rfl⟩
  · simp only [if_true] at hz
    rw [hx] at hw
    simp only [DataW.weights, Try.underlying22] at hw
    have hcap : cap * 8 ≤ reachBytes := by
      have := hw _ (List.mem_cons_self)
      rw [abytes3] at this
      simp only [lits, List.length_map, List.length_take, List.length_drop] at this
      have e : min len zs.length + (zs.length - len) = cap := by omega
      rwa [e] at this
    simp only [reachBytes] at hcap
    have hL : (zs.take len).length = len := by rw [List.length_take]; omega
    refine ⟨some a, cap, zs.take len, by rw [hL], ⟨by rw [hL]; omega, fun n hn => bounds_i64 (hwf n (List.mem_of_mem_take hn)), fun h0 => ?_⟩, by rw [hL]; exact hl, fun e => by cases e⟩
    rw [hL] at h0
    obtain ⟨b, off, rfl⟩ := at_spot (hc 0 (by omega))
    refine ⟨b, off, rfl, fun j hj => ?_⟩
    rw [hL] at hj
    have h9 := hc j (by omega)
    rw [Addr.add_mid] at h9
    rw [h9]
    congr 2
    rw [List.getD_eq_getElem?_getD, List.getD_eq_getElem?_getD, List.getElem?_take, if_pos hj]
set_option maxRecDepth 20000 in
theorem open_list {r : Reach} {v : Value} {d : DataW H} {q : List MemPlace} (hv : Value.okWide Try.prog w r base2 22 v) (h : DataW.Trod enc Try.prog w base (fun _ => true) held 22 v d q) (hw : ∀ n ∈ d.weights Try.prog 22, n ≤ reachBytes) :
    ∃ (ao : Option Addr) (cap : Nat) (l : List Int), v = .slice ao l.length cap ∧ IntsAt w ao l ∧ l.length ≤ cap ∧ (ao = none → cap = 0) := by
  obtain ⟨ao, len, cap, rfl⟩ := okWide_slice Try.underlying22 hv
  obtain ⟨fuel, hf⟩ := h
  obtain ⟨ao', cap', l, hc, h1, h2, h3⟩ := open_row hf hw
  have e : (Value.slice ao len cap) = .slice ao' l.length cap' := by
    have : ([Value.slice ao len cap] : List Value) = [.slice ao' l.length cap'] := hc
    injection this
  exact ⟨ao', cap', l, e, h1, h2, h3⟩
set_option maxRecDepth 20000 in
theorem open_rice {r : Reach} {v : Value} {d : DataW H} {q : List MemPlace} (hv : Value.okWide Try.prog w r base2 24 v) (h : DataW.Trod enc Try.prog w base (fun _ => true) held 24 v d q) (hw : ∀ n ∈ d.weights Try.prog 24, n ≤ reachBytes) :
    ∃ (c : Rc) (pa : Option Addr) (pc : Nat) (ea : Option Addr) (ec : Nat), v = riceV c pa pc ea ec ∧ RcAt w c pa ea := by
  obtain ⟨cs, rfl, hs⟩ := okWide_struct Try.underlying24 hv
  obtain ⟨fuel, hf⟩ := h
  obtain ⟨y0, y1, y2, y3, m, hx, hl, h0, h1, h2, h3⟩ := Joins.trod_struct4 Try.underlying24 hf
  rw [acellsR] at hl
  obtain ⟨z0, e0, f0, q0⟩ := DataW.trod_int Try.underlying3 h0
  obtain ⟨z1, e1, f1, q1⟩ := DataW.trod_int Try.underlying3 h1
  have hd : d = .agg [y0.1, y1.1, y2.1, y3.1] := by
    have := congrArg Prod.fst hx
    exact this
  have hw2 : ∀ n ∈ y2.1.weights Try.prog 22, n ≤ reachBytes := fun n hn => by
    apply hw
    rw [hd]
    simp only [DataW.weights, Try.underlying24, List.map_cons, List.map_nil, DataW.weightsEach, List.toList_toArray]
    simp only [List.mem_append]
    exact .inr (.inr (.inl hn))
  have hw3 : ∀ n ∈ y3.1.weights Try.prog 22, n ≤ reachBytes := fun n hn => by
    apply hw
    rw [hd]
    simp only [DataW.weights, Try.underlying24, List.map_cons, List.map_nil, DataW.weightsEach, List.toList_toArray]
    simp only [List.mem_append]
    exact .inr (.inr (.inr (.inl hn)))
  obtain ⟨pa, pc, P, hP, iP, _, _⟩ := open_row h2 hw2
  obtain ⟨ea, ec, E, hE, iE, _, _⟩ := open_row h3 hw3
  obtain ⟨cl⟩ := cs
  match cl, hl with
  | [c0, c1, c2, c3], _ =>
    simp [acells3, Value.cells] at e0 e1
    simp [acells3, acellsI, Value.cells] at hP hE
    subst e0 e1 hP hE
    exact ⟨⟨z0, z1, P, E⟩, pa, pc, ea, ec, rfl, ⟨iP, iE, (bounds_i64 q0).1, (bounds_i64 q0).2, (bounds_i64 q1).1, (bounds_i64 q1).2⟩⟩
set_option maxRecDepth 20000 in
theorem open_two {r : Reach} {v : Value} {d : DataW H} {q : List MemPlace} (hv : Value.okWide Try.prog w r base2 25 v) (h : DataW.Trod enc Try.prog w base (fun _ => true) held 25 v d q) :
    ∃ a b : Int, v = .agg #[.int .i64 a, .int .i64 b] ∧ (-9223372036854775808 ≤ a ∧ a ≤ 9223372036854775807) ∧ (-9223372036854775808 ≤ b ∧ b ≤ 9223372036854775807) := by
  simp only [Value.okWide, aundT] at hv
  obtain ⟨cs, rfl, hs, _⟩ := hv
  obtain ⟨fuel, hf⟩ := h
  obtain ⟨xs, m, _, _, hl, hxl, hall⟩ := DataW.trod_array aundT hf
  have hl2 : cs.toList.length = 2 := by
    have : cs.toList.length = Try.prog.cellsOf 25 := hl
    rw [this]; exact acellsT
  obtain ⟨cl⟩ := cs
  match cl, hl2 with
  | [c0, c1], _ =>
    match xs, hxl with
    | [x0, x1], _ =>
      have h0 := hall 0 (by omega)
      have h1 := hall 1 (by omega)
      simp [acells3, Value.cells] at h0 h1
      obtain ⟨z0, e0, _, q0⟩ := DataW.trod_int Try.underlying3 h0
      obtain ⟨z1, e1, _, q1⟩ := DataW.trod_int Try.underlying3 h1
      injection e0 with e0 _
      injection e1 with e1 _
      subst e0 e1
      exact ⟨z0, z1, rfl, bounds_i64 q0, bounds_i64 q1⟩
end

end Go.Proofs.Ytdlakbgcflekkaa

namespace Go.Proofs.Ytdlakbgcflekkaa
open Go.RowKit
set_option linter.unusedSimpArgs false
set_option linter.unusedVariables false

theorem one_len (x : Int) (hx : -4000 ≤ x ∧ x ≤ 4000) (k : Int) (k0 : 0 ≤ k) (k1 : k ≤ 30) : (oneB k (-1) x).length = oneC k.toNat x := by
  unfold oneB rcwB oneC
  rw [if_pos rfl, if_pos ⟨k0, k1, Nat.le_trans (fold_div x hx _) (by decide)⟩]
  simp only [List.length_append, List.length_replicate, List.length_singleton, bitsOf_length]
theorem nums_len (k : Int) (k0 : 0 ≤ k) (k1 : k ≤ 30) (X : List Int) (hX : ∀ x ∈ X, -4000 ≤ x ∧ x ≤ 4000) : (numsB k (-1) X).length = costN X k.toNat := by
  induction X with
  | nil => rfl
  | cons x t ih =>
    have h1 := ih (fun y hy => hX y (List.mem_cons_of_mem _ hy))
    have h2 := one_len x (hX x (List.mem_cons_self ..)) k k0 k1
    have e1 : numsB k (-1) (x :: t) = oneB k (-1) x ++ numsB k (-1) t := by simp [numsB]
    have e2 : costN (x :: t) k.toNat = oneC k.toNat x + costN t k.toNat := by simp [costN]
    rw [e1, e2, List.length_append, h1, h2]
theorem put_len (u k : Int) (n : Nat) (hk : k = n) (hn : n ≤ 64) (hu : u < 2 ^ n) : (putB u k).length = n := by
  have e : k.toNat = n := by omega
  unfold putB
  rw [e, if_pos ⟨by omega, by omega, hu⟩, bitsOf_length]
theorem part_len (k : Int) (k0 : 0 ≤ k) (k1 : k ≤ 14) (X : List Int) (hX : ∀ x ∈ X, -4000 ≤ x ∧ x ≤ 4000) : (partB 0 k (-1) X).length = 4 + costN X k.toNat := by
  unfold partB headB
  rw [if_pos rfl, List.length_append, nums_len k k0 (by omega) X hX, put_len k (4 + 0) 4 rfl (by decide) (by omega)]
theorem getD_chP (F : Nat → Nat → Nat) (n i : Nat) (h : i < n) : (chP F n).getD i 0 = (bestK (F i) 14 : Int) := by
  unfold chP
  rw [List.getD_eq_getElem?_getD, List.getElem?_map, List.getElem?_range h]; rfl
theorem getD_chE (n i : Nat) (h : i < n) : (chE n).getD i 0 = -1 := by
  unfold chE
  rw [List.getD_eq_getElem?_getD, List.getElem?_replicate, if_pos h]; rfl
theorem best_rok {b o r : Nat} (hC : Cut b o r) (l : List Int) : Rok (bestRc l b r o) b o r := by
  refine ⟨hC, rfl, Int.le_refl _, (show (0 : Int) ≤ 1 by decide), chP_len _ _, chE_len _, fun i hi => ?_⟩
  show mayOk 0 ((chP (ordF l b r o) (2 ^ o)).getD i 0) ((chE (2 ^ o)).getD i 0)
  rw [getD_chP _ _ _ hi, getD_chE _ _ hi]
  have := bestK_le (ordF l b r o i) 14
  left
  omega
theorem best_fit {b o r : Nat} (l : List Int) (hs : ShX l) (hn : l.length = b - r) : fitB (bestRc l b r o) b o r l = true := by
  refine fitB_yes ⟨hn, fun i hi x hx => ?_⟩
  show fitE ((chP (ordF l b r o) (2 ^ o)).getD i 0) ((chE (2 ^ o)).getD i 0) x
  rw [getD_chP _ _ _ hi, getD_chE _ _ hi]
  have := bestK_le (ordF l b r o i) 14
  exact fit_coded x ((hs.part b o r i).1 x hx) _ (by omega) (by omega)
theorem best_encR {b o r : Nat} (hC : Cut b o r) (l : List Int) (hs : ShX l) (hn : l.length = b - r) : encR (bestRc l b r o) b r l = true := by
  unfold encR
  rw [Bool.and_eq_true_iff]
  refine ⟨decide_eq_true (best_rok hC l).chk, ?_⟩
  have e : (bestRc l b r o).o.toNat = o := rfl
  rw [e]
  exact best_fit l hs hn
theorem best_parts {b o r : Nat} (l : List Int) (hs : ShX l) (n : Nat) (hn : n ≤ 2 ^ o) : 6 + (partsB (bestRc l b r o) b o r l n).length = chS (ordF l b r o) n := by
  induction n with
  | zero => rfl
  | succ n ih =>
    have i1 := ih (by omega)
    have hb := bestK_le (ordF l b r o n) 14
    rw [partsB_succ, List.length_append]
    have e : partB (bestRc l b r o).m ((bestRc l b r o).P.getD n 0) ((bestRc l b r o).E.getD n 0) (partN l b o r n) = partB 0 (bestK (ordF l b r o n) 14 : Int) (-1) (partN l b o r n) := by
      show partB 0 ((chP (ordF l b r o) (2 ^ o)).getD n 0) ((chE (2 ^ o)).getD n 0) _ = _
      rw [getD_chP _ _ _ (by omega), getD_chE _ _ (by omega)]
    rw [e, part_len _ (by omega) (by omega) _ (hs.part b o r n).1]
    have e2 : chS (ordF l b r o) (n + 1) = chS (ordF l b r o) n + (4 + ordF l b r o n (bestK (ordF l b r o n) 14)) := rfl
    rw [e2]
    have e3 : ordF l b r o n (bestK (ordF l b r o n) 14) = costN (partN l b o r n) ((bestK (ordF l b r o n) 14 : Int)).toNat := rfl
    rw [e3]
    omega
theorem best_encL {b o r : Nat} (hC : Cut b o r) (l : List Int) (hs : ShX l) (hn : l.length = b - r) (ho : o ≤ 4) : (encL (bestRc l b r o) b r l).length = ordS l b r o := by
  have e1 : encL (bestRc l b r o) b r l = encB (bestRc l b r o) b r l := by unfold encL; rw [best_encR hC l hs hn]; rfl
  rw [e1]
  have h1 := best_parts (b := b) (o := o) (r := r) l hs (2 ^ o) (Nat.le_refl _)
  have h2 : (putB (bestRc l b r o).m 2).length = 2 := put_len 0 2 2 rfl (by decide) (by decide)
  have h3 : (putB (bestRc l b r o).o 4).length = 4 := put_len (o : Int) 4 4 rfl (by decide) (by omega)
  have e2 : (bestRc l b r o).o.toNat = o := rfl
  unfold encB
  rw [e2, List.length_append, List.length_append, h2, h3]
  unfold ordS
  omega
/-- A recipe of method 0, of order 4 at most, that escapes nothing. -/
def plT (c : Rc) (j : Nat) : Bool := decide (c.m = 0) && decide (c.o ≤ 4) && (c.E.take j).all (fun e => e == -1)
theorem plT_at {c : Rc} (h : plT c c.E.length = true) : c.m = 0 ∧ c.o ≤ 4 ∧ ∀ i, i < c.E.length → c.E.getD i 0 = -1 := by
  unfold plT at h
  rw [Bool.and_eq_true_iff, Bool.and_eq_true_iff, decide_eq_true_iff, decide_eq_true_iff, List.take_of_length_le (Nat.le_refl _), List.all_eq_true] at h
  refine ⟨h.1.1, h.1.2, fun i hi => ?_⟩
  have := h.2 _ (getD_mem c.E i hi)
  simpa using this
theorem plT_succ (c : Rc) (j : Nat) (hj : j < c.E.length) : plT c (j + 1) = (plT c j && (c.E.getD j 0 == -1)) := by
  unfold plT
  rw [take_snoc c.E j hj, List.all_append]
  simp [Bool.and_assoc]
theorem plain_ge {b o r : Nat} {c : Rc} (hk : Rok c b o r) (hp : plT c c.E.length = true) (l : List Int) (hs : ShX l) (n : Nat) (hn : n ≤ 2 ^ o) : chS (ordF l b r o) n ≤ 6 + (partsB c b o r l n).length := by
  obtain ⟨p1, p2, p3⟩ := plT_at hp
  induction n with
  | zero => exact Nat.le_add_right _ _
  | succ n ih =>
    have i1 := ih (by omega)
    have hE := p3 n (by rw [hk.lE]; omega)
    have hm := hk.may n (by omega)
    rw [hE, p1] at hm
    have hP : 0 ≤ c.P.getD n 0 ∧ c.P.getD n 0 ≤ 14 := by
      rcases hm with h1 | h1
      · exact ⟨h1.2.1, by omega⟩
      · omega
    rw [partsB_succ, List.length_append, hE, p1, part_len _ hP.1 hP.2 _ (hs.part b o r n).1]
    have e2 : chS (ordF l b r o) (n + 1) = chS (ordF l b r o) n + (4 + ordF l b r o n (bestK (ordF l b r o n) 14)) := rfl
    have h3 := (bestK_in (ordF l b r o n) 14).1 (c.P.getD n 0).toNat (by omega)
    have e3 : ordF l b r o n (c.P.getD n 0).toNat = costN (partN l b o r n) (c.P.getD n 0).toNat := rfl
    rw [e2]
    omega
theorem plain_long {b o r : Nat} (hC : Cut b o r) (ho4 : o ≤ 4) (hall : ∀ o' : Nat, o < o' → o' ≤ 4 → ¬ cutOk b r o') (c : Rc) (l : List Int) (hs : ShX l) (hR : encR c b r l = true) (hp : plT c c.E.length = true) :
    ordS l b r (bestK (ordS l b r) o) ≤ (encL c b r l).length := by
  obtain ⟨b', o', r', hb, hr, hk, hf⟩ := encR_yes hR
  have eb : b' = b := by omega
  have er : r' = r := by omega
  subst eb er
  obtain ⟨p1, p2, p3⟩ := plT_at hp
  have ho' : o' ≤ 4 := by have := hk.ho; omega
  have hoo : o' ≤ o := by
    rcases Nat.lt_or_ge o o' with h | h
    · exact absurd hk.cut.ok (hall o' h ho')
    · exact h
  have h1 := (bestK_in (ordS l b' r') o).1 o' hoo
  have h2 := plain_ge hk hp l hs (2 ^ o') (Nat.le_refl _)
  have e1 : encL c b' r' l = encB c b' r' l := by unfold encL; rw [hR]; rfl
  have h3 : (putB c.m 2).length = 2 := put_len c.m 2 2 rfl (by decide) (by rw [p1]; decide)
  have h4 : (putB c.o 4).length = 4 := put_len c.o 4 4 rfl (by decide) (by have : (2 : Int) ^ 4 = 16 := by decide
                                                                           omega)
  have e2 : c.o.toNat = o' := by have := hk.ho; omega
  rw [e1]
  unfold encB
  rw [e2, List.length_append, List.length_append, h3, h4]
  have e3 : ordS l b' r' o' = chS (ordF l b' r' o') (2 ^ o') := rfl
  omega

theorem finest_ex {b r : Int} (h : ∃ o : Nat, o ≤ 4 ∧ cutOk b r o) : ∃ b' o r' : Nat, b = b' ∧ r = r' ∧ Cut b' o r' ∧ o ≤ 4 ∧ ∀ o' : Nat, o < o' → o' ≤ 4 → ¬ cutOk b' r' o' := by
  have key : ∀ n : Nat, n ≤ 4 → (∃ o : Nat, o ≤ n ∧ cutOk b r o) → (∀ o' : Nat, n < o' → o' ≤ 4 → ¬ cutOk b r o') → ∃ o : Nat, o ≤ 4 ∧ cutOk b r o ∧ ∀ o' : Nat, o < o' → o' ≤ 4 → ¬ cutOk b r o' := by
    intro n
    induction n with
    | zero =>
      rintro _ ⟨o, ho, hc⟩ hall
      rw [show o = 0 by omega] at hc
      exact ⟨0, by omega, hc, hall⟩
    | succ n ih =>
      rintro hn ⟨o, ho, hc⟩ hall
      by_cases g : cutOk b r ((n + 1 : Nat) : Int)
      · exact ⟨n + 1, hn, g, hall⟩
      · refine ih (by omega) ⟨o, ?_, hc⟩ (fun o' h1 h2 => ?_)
        · rcases Nat.lt_or_ge n o with h1 | h1
          · rw [show o = n + 1 by omega] at hc; exact absurd hc g
          · exact h1
        · by_cases e : o' = n + 1
          · rw [e]; exact g
          · exact hall o' (by omega) h2
  obtain ⟨o, h1, h2, h3⟩ := key 4 (Nat.le_refl _) h (fun o' a b => by omega)
  obtain ⟨b', r', o', e1, e2, e3, hC⟩ := Cut.of h2
  have e4 : o = o' := by omega
  subst e4 e1 e2
  exact ⟨b', o, r', rfl, rfl, hC, h1, h3⟩
theorem best_ways (na nb : Int) (l : List Int) (hs : ShX l) (lo : Option Addr) (cap : Nat) (hc : l.length ≤ cap) (h0 : lo = none → cap = 0) (w : World) (hl : IntsAt w lo l) :
    (Calls Try.prog 26 #[.int .i64 na, .int .i64 nb, .slice lo l.length cap] w fun en w' => en = .returned (.tuple #[.agg #[.int .i64 0, .int .i64 0, .slice none 0 0, .slice none 0 0], .int .i64 (-1)]) ∧ Below w.heap.size w w') ∨ (∃ b o r : Nat, na = b ∧ nb = r ∧ Cut b o r ∧ o ≤ 4 ∧ (∀ o' : Nat, o < o' → o' ≤ 4 → ¬ cutOk b r o') ∧ l.length = b - r) := by
  by_cases hex : ∃ o : Nat, o ≤ 4 ∧ cutOk na nb o
  · obtain ⟨b, o, r, rfl, rfl, hC, ho, hall⟩ := finest_ex hex
    by_cases hn : l.length = b - r
    · exact Or.inr ⟨b, o, r, rfl, rfl, hC, ho, hall, hn⟩
    · exact Or.inl (best_len b o r hC ho hall l hs lo cap hc h0 w hl hn)
  · exact Or.inl (best_cut na nb (fun o' h1 h2 => hex ⟨o', h1, h2⟩) _ w)

end Go.Proofs.Ytdlakbgcflekkaa
