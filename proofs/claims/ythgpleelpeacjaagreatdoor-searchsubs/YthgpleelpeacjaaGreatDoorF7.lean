/- Own text. -/
import Derived.Test.YthgpleelpeacjaaGreatDoorF6
import Derived.RowKit
import Derived.Test.YthgpleelpeacjaaGreatDoorChecked
import Derived.Deep.AppendLies
import Derived.BigRegion
set_option linter.unusedSimpArgs false
set_option linter.unusedVariables false
set_option maxRecDepth 20000
set_option maxHeartbeats 12800000
namespace Go.Proofs.YthgpleelpeacjaaGreatDoor
open Go.RowKit
theorem set4_a {wx : World} (n : Nat) (v0 v1 v2 v3 : Value) {a0 a1 a2 a3 : Value} {t : TypeId} (h : wx.heap[n]? = some (.cells #[a0, a1, a2, a3] t (0, 0))) : ((((wx.setCell ⟨n, 0, none⟩ v0).setCell ⟨n, 1, none⟩ v1).setCell ⟨n, 2, none⟩ v2).setCell ⟨n, 3, none⟩ v3).heap[n]? = some (.cells #[v0, v1, v2, v3] t (0, 0)) := by
 rw [block_setCell _ _ _ _ _ _ (block_setCell _ _ _ _ _ _ (block_setCell _ _ _ _ _ _ (block_setCell _ _ _ _ _ _ h)))]
 rfl
theorem set4_d {wx : World} (n : Nat) (v0 v1 v2 v3 : Value) (j : Nat) (h0 : j ≠ n) : ((((wx.setCell ⟨n, 0, none⟩ v0).setCell ⟨n, 1, none⟩ v1).setCell ⟨n, 2, none⟩ v2).setCell ⟨n, 3, none⟩ v3).heap[j]? = wx.heap[j]? := by
 rw [Below.heap_setCell _ _ _ j h0, Below.heap_setCell _ _ _ j h0, Below.heap_setCell _ _ _ j h0, Below.heap_setCell _ _ _ j h0]
theorem set_next (X : List Int) (z : Nat) (v : Int) (hz : 0 < z) : (X ++ List.replicate z 0).set X.length v = X ++ [v] ++ List.replicate (z - 1) 0 := by
 have h := set_mid [] X [] z v hz
 simpa using h
def encR (c : Rc) (b r : Int) (l : List Int) : Bool := decide (chkOk c b r) && fitB c b.toNat c.o.toNat r.toNat l
theorem encR_yes {c : Rc} {b r : Int} {l : List Int} (h : encR c b r l = true) : ∃ b' o' r' : Nat, b = b' ∧ r = r' ∧ Rok c b' o' r' ∧ fitB c b' o' r' l = true := by
 obtain ⟨h1, h2⟩ := Bool.and_eq_true_iff.1 h
 obtain ⟨b', r', o', rfl, rfl, hk⟩ := Rok.of (of_decide_eq_true h1)
 have e : c.o.toNat = o' := by have := hk.ho; omega
 rw [e] at h2
 exact ⟨b', o', r', rfl, rfl, hk, by simpa using h2⟩
def encN (c : Rc) (b r : Int) (l : List Int) : Int := if encR c b r l then 0 else 60
def encL (c : Rc) (b r : Int) (l : List Int) : List Nat := if encR c b r l then encB c b.toNat r.toNat l else []
theorem encB_room (c : Rc) (b o r : Nat) (hk : Rok c b o r) (l : List Int) (hlen : l.length = b - r) (h5 : l.length ≤ 65535) : (encB c b r l).length ≤ 1300000000000 := by
 have hot : c.o.toNat = o := by have := hk.ho; omega
 have h1 := parts_room c hk.m1 hk.cut l hlen (2 ^ o) (Nat.le_refl _) h5
 have h2 := putB_short c.m 2 (by omega)
 have h3 := putB_short c.o 4 (by omega)
 unfold encB
 rw [hot]
 simp only [List.length_append]
 omega
def foreS (C l : List Int) (a : Nat) : Nat → Int
 | 0 => 0
 | i + 1 => wrap64 (foreS C l a i + wrap64 (C.getD i 0 * l.getD (a - 1 - i) 0))
def foreN (C : List Int) (sh : Nat) (l : List Int) (a : Nat) : Int := foreS C l a C.length / 2 ^ sh
def leftN (C : List Int) (sh : Nat) (l : List Int) : Nat → List Int
 | 0 => []
 | n + 1 => leftN C sh l n ++ [wrap64 (l.getD (C.length + n) 0 - foreN C sh l (C.length + n))]
abbrev Rng (l : List Int) : Prop := ∀ n ∈ l, -9223372036854775808 ≤ n ∧ n ≤ 9223372036854775807
theorem wrap_rng (n : Int) : -9223372036854775808 ≤ wrap64 n ∧ wrap64 n ≤ 9223372036854775807 := by unfold wrap64; omega
theorem foreS_rng (C l : List Int) (a k : Nat) : -9223372036854775808 ≤ foreS C l a k ∧ foreS C l a k ≤ 9223372036854775807 := by
 cases k with
 | zero => unfold foreS; omega
 | succ k => exact wrap_rng _
theorem shr_rng (x : Int) (sh : Nat) (h : -9223372036854775808 ≤ x ∧ x ≤ 9223372036854775807) : -9223372036854775808 ≤ x / 2 ^ sh ∧ x / 2 ^ sh ≤ 9223372036854775807 := by
 have hp : (1 : Int) ≤ 2 ^ sh := by
  have := Nat.one_le_two_pow (n := sh)
  have e : ((2 ^ sh : Nat) : Int) = (2 : Int) ^ sh := by simp
  omega
 generalize (2 : Int) ^ sh = P at *
 refine ⟨?_, ?_⟩
 ·refine Int.le_ediv_of_mul_le (by omega) ?_
  have : (-9223372036854775808 : Int) * P ≤ -9223372036854775808 * 1 := Int.mul_le_mul_of_nonpos_left (by omega) (by omega)
  omega
 ·by_cases h0 : 0 ≤ x
  ·have := Int.ediv_le_self P h0; omega
  ·have := Int.ediv_neg_of_neg_of_pos (show x < 0 by omega) (show (0 : Int) < P by omega); omega
theorem leftN_len (C : List Int) (sh : Nat) (l : List Int) (n : Nat) : (leftN C sh l n).length = n := by
 induction n with
 | zero => rfl
 | succ n ih => unfold leftN; rw [List.length_append, ih]; rfl
theorem leftN_rng (C : List Int) (sh : Nat) (l : List Int) (n : Nat) : Rng (leftN C sh l n) := by
 induction n with
 | zero => intro x hx; cases hx
 | succ n ih =>
  intro x hx
  rcases List.mem_append.1 hx with hx | hx
  ·exact ih x hx
  ·rw [List.mem_singleton] at hx; rw [hx]; exact wrap_rng _
theorem getD_app_left (a b : List Int) (i : Nat) (h : i < a.length) : (a ++ b).getD i 0 = a.getD i 0 := by
 rw [List.getD_eq_getElem?_getD, List.getD_eq_getElem?_getD, List.getElem?_append_left h]
theorem getD_app_len (a : List Int) (x : Int) : (a ++ [x]).getD a.length 0 = x := by
 rw [List.getD_eq_getElem?_getD, List.getElem?_append_right (Nat.le_refl _), Nat.sub_self]; rfl
theorem leftN_at (C : List Int) (sh : Nat) (l : List Int) (n i : Nat) (h : i < n) : (leftN C sh l n).getD i 0 = wrap64 (l.getD (C.length + i) 0 - foreN C sh l (C.length + i)) := by
 induction n with
 | zero => omega
 | succ n ih =>
  have hl := leftN_len C sh l n
  unfold leftN
  by_cases e : i = n
  ·subst e
   have h2 := getD_app_len (leftN C sh l i) (wrap64 (l.getD (C.length + i) 0 - foreN C sh l (C.length + i)))
   rw [hl] at h2; exact h2
  ·rw [getD_app_left _ _ _ (by omega)]; exact ih (by omega)
theorem take_next (l : List Int) (n : Nat) (h : n < l.length) : l.take n ++ [l.getD n 0] = l.take (n + 1) := by
 rw [List.take_add_one, List.getD_eq_getElem?_getD, List.getElem?_eq_getElem h]; rfl
def wF (o : Nat) : List Int := if o = 0 then [] else if o = 1 then [1] else if o = 2 then [2, -1] else if o = 3 then [3, -3, 1] else [4, -6, 4, -1]
theorem wF_len (o : Nat) (h : o ≤ 4) : (wF o).length = o := by
 rcases (show o = 0 ∨ o = 1 ∨ o = 2 ∨ o = 3 ∨ o = 4 by omega) with rfl | rfl | rfl | rfl | rfl <;> rfl
def dvB (l : List Int) (k : Nat) : Bool := l.all fun n => n % 2 ^ k == 0
theorem dvB_iff (l : List Int) (k : Nat) : dvB l k = true ↔ ∀ n ∈ l, n % 2 ^ k = 0 := by unfold dvB; simp
theorem dvB_mono (l : List Int) (j k : Nat) (h : j ≤ k) (hk : dvB l k = true) : dvB l j = true := by
 rw [dvB_iff] at *
 intro n hn
 have h1 := hk n hn
 have h2 : (2 : Int) ^ k = 2 ^ j * 2 ^ (k - j) := by rw [← Int.pow_add]; congr 1; omega
 have h3 : (2 : Int) ^ k ∣ n := Int.dvd_of_emod_eq_zero h1
 rw [h2] at h3
 exact Int.emod_eq_zero_of_dvd (Int.dvd_trans (Int.dvd_mul_right _ _) h3)
def wasK (l : List Int) : Nat → Nat
 | 0 => 0
 | k + 1 => if dvB l (k + 1) = true then k + 1 else wasK l k
def zerB (l : List Int) : Bool := l.all fun n => n == 0
def wasN (l : List Int) : Nat := if zerB l = true then 0 else wasK l 31
theorem wasK_le (l : List Int) (k : Nat) : wasK l k ≤ k := by
 induction k with
 | zero => exact Nat.le_refl _
 | succ k ih => unfold wasK; split <;> omega
theorem wasN_le (l : List Int) : wasN l ≤ 31 := by unfold wasN; split; omega; exact wasK_le l 31
theorem wasK_is (l : List Int) (n K : Nat) (hn : n ≤ K) (h1 : dvB l n = true) (h2 : n = K ∨ dvB l (n + 1) = false) : wasK l K = n := by
 induction K with
 | zero => unfold wasK; omega
 | succ K ih =>
  unfold wasK
  by_cases e : n = K + 1
  ·subst e; rw [if_pos h1]
  ·rcases h2 with h2 | h2
   ·omega
   ·have h3 : ¬ dvB l (K + 1) = true := fun h => by
     have := dvB_mono l (n + 1) (K + 1) (by omega) h
     rw [h2] at this; cases this
    rw [if_neg h3]
    exact ih (by omega) (Or.inr h2)
theorem dvB_zero (l : List Int) : dvB l 0 = true := by rw [dvB_iff]; intro n _; simp [Int.emod_one]
theorem wasK_dvB (l : List Int) (k : Nat) : dvB l (wasK l k) = true := by
 induction k with
 | zero => exact dvB_zero l
 | succ k ih => unfold wasK; split; assumption; exact ih
theorem wasN_dvB (l : List Int) : dvB l (wasN l) = true := by unfold wasN; split; exact dvB_zero l; exact wasK_dvB l 31
def shrL (l : List Int) (k : Nat) : List Int := l.map fun n => n / 2 ^ k
structure Sb where
 k : Int
 o : Int
 w : Int
 p : Int
 h : Int
 C : List Int
 R : Rc
abbrev bareOk (s : Sb) : Prop := s.p = 0 ∧ s.h = 0 ∧ s.C = []
abbrev plnOk (s : Sb) : Prop := s.o = 0 ∧ s.R = ⟨0, 0, [], []⟩
abbrev kdA (s : Sb) : Prop := (s.k = 0 ∨ s.k = 1) ∧ bareOk s ∧ plnOk s
abbrev kdF (s : Sb) (b : Int) : Prop := s.k = 2 ∧ bareOk s ∧ 0 ≤ s.o ∧ s.o ≤ 4 ∧ s.o ≤ b ∧ chkOk s.R b s.o
abbrev kdL (s : Sb) (b : Int) : Prop := s.k = 3 ∧ 1 ≤ s.o ∧ s.o ≤ 32 ∧ s.o ≤ b ∧ 1 ≤ s.p ∧ s.p ≤ 15 ∧ 0 ≤ s.h ∧ s.h ≤ 15 ∧ (s.C.length : Int) = s.o ∧ (∀ x ∈ s.C, sigE x s.p = 0) ∧ chkOk s.R b s.o
abbrev subOk (s : Sb) (b v : Int) : Prop := (1 ≤ b ∧ b ≤ 65535) ∧ (1 ≤ v ∧ v ≤ 33) ∧ (0 ≤ s.w ∧ s.w < v) ∧ (kdA s ∨ kdF s b ∨ kdL s b)
def resN (s : Sb) (m : List Int) : List Int := if s.k = 2 then leftN (wF s.o.toNat) 0 m (m.length - s.o.toNat) else leftN s.C s.h.toNat m (m.length - s.o.toNat)
abbrev goesOk (s : Sb) (v : Int) (l : List Int) : Prop := (∀ x ∈ l, sigE x v = 0) ∧ dvB l s.w.toNat = true ∧ (s.k = 0 → ∀ x ∈ l, x = l.getD 0 0) ∧ (s.k = 2 ∨ s.k = 3 → encR s.R l.length s.o (resN s (shrL l s.w.toNat)) = true)
def typN (s : Sb) : Int := if s.k = 0 then 0 else if s.k = 1 then 1 else if s.k = 2 then 8 + s.o else 31 + s.o
def wstB (w : Int) : List Nat := if 0 < w then putB 1 1 ++ unrB (w - 1) else putB 0 1
def bodyB (s : Sb) (v : Int) (m : List Int) : List Nat :=
 if s.k = 0 then sigB (m.getD 0 0) (v - s.w)
 else if s.k = 1 then numsB 0 (v - s.w) m
 else if s.k = 2 then numsB 0 (v - s.w) (m.take s.o.toNat) ++ encB s.R m.length s.o.toNat (resN s m)
 else numsB 0 (v - s.w) (m.take s.o.toNat) ++ (putB (s.p - 1) 4 ++ (putB s.h 5 ++ (numsB 0 s.p s.C ++ encB s.R m.length s.o.toNat (resN s m))))
def subB (s : Sb) (v : Int) (l : List Int) : List Nat := putB (typN s) 7 ++ (wstB s.w ++ bodyB s v (shrL l s.w.toNat))
theorem sigE_iff (x v : Int) : sigE x v = 0 ↔ 1 ≤ v ∧ v ≤ 64 ∧ -2 ^ (v.toNat - 1) ≤ x ∧ x < 2 ^ (v.toNat - 1) := by
 unfold sigE
 constructor
 ·intro h
  split at h
  ·assumption
  ·cases h
 ·intro h; rw [if_pos h]
theorem pow_int (k : Nat) : (2 : Int) ^ k = ((2 ^ k : Nat) : Int) := by simp
theorem fit_div (x : Int) (v w : Nat) (hw : w < v) (hf : sigE x v = 0) (hd : x % 2 ^ w = 0) : sigE (x / 2 ^ w) ((v - w : Nat) : Int) = 0 := by
 rw [sigE_iff] at hf ⊢
 obtain ⟨h1, h2, h3, h4⟩ := hf
 rw [Int.toNat_natCast] at h3 h4 ⊢
 have hp : (2 : Int) ^ (v - 1) = 2 ^ (v - w - 1) * 2 ^ w := by rw [← Int.pow_add]; congr 1; omega
 have hq : (0 : Int) < 2 ^ w := Int.pow_pos (by decide)
 have hx : x / 2 ^ w * 2 ^ w = x := Int.ediv_mul_cancel (Int.dvd_of_emod_eq_zero hd)
 rw [hp] at h3 h4
 refine ⟨by omega, by omega, ?_, ?_⟩
 ·rw [← hx, ← Int.neg_mul] at h3
  exact Int.le_of_mul_le_mul_right h3 hq
 ·rw [← hx] at h4
  exact Int.lt_of_mul_lt_mul_right h4 (Int.le_of_lt hq)
theorem shr_len (l : List Int) (k : Nat) : (shrL l k).length = l.length := List.length_map ..
theorem shr_fit (l : List Int) (v w : Nat) (hw : w < v) (h : ∀ x ∈ l, sigE x v = 0) (hd : dvB l w = true) : ∀ x ∈ shrL l w, sigE x ((v - w : Nat) : Int) = 0 := fun y hy => by
 obtain ⟨x, hm, rfl⟩ := List.mem_map.1 hy
 exact fit_div x v w hw (h x hm) ((dvB_iff l w).1 hd x hm)
abbrev R0 : Rc := ⟨0, 0, [], []⟩
theorem wrap_is (n : Int) : IntKind.i64.wrap n = wrap64 n := by unfold wrap64; exact IntKind.wrap_i64 n
theorem tmp_new (X : World) (v : Value) : (X.alloc (.cells #[v] 3)).heap[X.heap.size]? = some (.cells #[v] 3 (0, 0)) := heap_alloc_new _ _
theorem own_low {N : Nat} {e : TypeId} {z : Nat} {v : Value} {n : Nat} {xs : List Value} {w w' : World} (h : w.ownsRow N e z v n xs) (hb : Below w.heap.size w w') : w'.ownsRow N e z v n xs := by
 refine h.kept (row := none) ⟨hb.os, hb.tape, hb.output, hb.size, fun k hk _ => hb.block k hk⟩ ?_
 cases e : v.ownBlock with
 | none => exact .inl rfl
 | some g => exact .inr (fun h => by cases h)
theorem own_ints {N : Nat} {ao : Option Addr} {cap : Nat} {L : List Int} {w : World} (h : w.ownsRow N 3 1 (.slice ao L.length cap) L.length (intsC L)) (hl : L.length ≤ 17592186044415) (hn : ∀ n ∈ L, -9223372036854775808 ≤ n ∧ n ≤ 9223372036854775807) : IntsAt w ao L := by
 refine ⟨hl, hn, fun h0 => ?_⟩
 obtain ⟨g, c, e, _, _⟩ := h.form h0
 simp only [Value.slice.injEq, true_and] at e
 obtain ⟨rfl, rfl⟩ := e
 refine ⟨g, 0, rfl, fun j hj => ?_⟩
 rw [Nat.zero_add, h.cellAt j (by omega)]
 simp [intsC, List.getD_eq_getElem?_getD, List.getElem?_eq_getElem hj]
theorem int_info : ∃ i, Tryz.prog.info? 3 = some i ∧ i.zero = some (.int .i64 0) ∧ i.size = 1 ∧ i.bytes = 8 := by
 have h : (Tryz.prog.info? 3).map (fun i => (i.zero, i.size, i.bytes)) = some (some (.int .i64 0), 1, 8) := by kernel_rfl
 cases hq : Tryz.prog.info? 3 with
 | none => rw [hq] at h; cases h
 | some i =>
  rw [hq] at h
  simp only [Option.map_some, Option.some.injEq, Prod.mk.injEq] at h
  exact ⟨i, rfl, h.1, h.2.1, h.2.2⟩
theorem undI3 : Tryz.prog.underlying 22 = some (.slice 3) := by kernel_rfl
structure Out (w : World) (v : Value) (xs : List Int) (X : World) : Prop where
 own : X.ownsRow w.heap.size 3 1 v xs.length (intsC xs)
 below : Below w.heap.size w X
theorem cell_row {w : World} {b : Nat} {cs : Array Value} {t : TypeId} {fr : Nat × Nat} (h : w.heap[b]? = some (.cells cs t fr)) (j : Nat) : w.cell? ⟨b, j, none⟩ = cs[j]? := by
 simp [World.cell?, h]
theorem ints_new (w : World) (l : List Int) (hl : l.length ≤ 1000) (hn : ∀ n ∈ l, -9223372036854775808 ≤ n ∧ n ≤ 9223372036854775807) : IntsAt (w.alloc (.cells (intsC l).toArray 3)) (some ⟨w.heap.size, 0, none⟩) l := by
 refine ⟨by omega, hn, fun h0 => ⟨w.heap.size, 0, rfl, fun j hj => ?_⟩⟩
 rw [cell_row (heap_alloc_new _ _)]
 rw [Nat.zero_add, List.getElem?_toArray]
 unfold intsC
 rw [List.getElem?_map, List.getElem?_eq_getElem hj, List.getD_eq_getElem?_getD, List.getElem?_eq_getElem hj]
 rfl
def ansL (R : Option (List Int)) : List Int := R.getD []
def ansE (R : Option (List Int)) : Int := match R with
 | none => 1
 | some _ => 0
def Ret2 (R : Option (List Int)) (w : World) (e : Ending) (w' : World) : Prop := ∃ la lc, e = .returned (.tuple #[.slice la (ansL R).length lc, .int .i64 (ansE R)]) ∧ IntsAt w' la (ansL R) ∧ Below w.heap.size w w'
theorem IntsAt.nil (w : World) : IntsAt w none [] := ⟨by simp, by simp, fun h => by simp at h⟩
theorem Out.nil (w : World) : Out w (.slice none 0 0) [] w := ⟨World.ownsRow_nil _ _ _ _, Below.refl _ _⟩
theorem Out.low {w X X' : World} {v : Value} {xs : List Int} (h : Out w v xs X) (hb : Below X.heap.size X X') : Out w v xs X' := ⟨own_low h.own hb, h.below.trans (hb.mono h.below.size)⟩
theorem Out.drew {w X : World} {v : Value} {xs : List Int} (h : Out w v xs X) : Out w v xs X.drew := h.low ⟨rfl, rfl, rfl, Nat.le_refl _, fun _ _ => rfl⟩
theorem Out.alloc {w X : World} {v : Value} {xs : List Int} (h : Out w v xs X) (o : Obj) : Out w v xs (X.alloc o) := h.low ((Below.refl _ _).alloc (Nat.le_refl _) _)
theorem Out.push {w X : World} {v : Value} {xs : List Int} (h : Out w v xs X) {g cap : Nat} {w1 : World} {p : Int} (ho : w1.ownsRow w.heap.size 3 1 (.slice (some ⟨g, 0, none⟩) (xs.length + 1) cap) (xs.length + 1) (intsC xs ++ [.int .i64 p])) (hg : X.grownBy w1 v.ownBlock) : Out w (.slice (some ⟨g, 0, none⟩) (xs.length + 1) cap) (xs ++ [p]) w1 := by
 refine ⟨by rw [List.length_append, intsC_append]; exact ho, h.below.trans ⟨hg.os, hg.tape, hg.output, hg.size, fun k hk => ?_⟩⟩
 exact hg.block k (by have := h.below.size; omega) (fun e => by have := (h.own.lt k e.symm).1; omega)
theorem Out.shape {w X : World} {v : Value} {xs : List Int} (h : Out w v xs X) : ∃ ao cap, v = .slice ao xs.length cap := by
 obtain ⟨ao, cap, h1, _⟩ := owns_shape h.own
 exact ⟨ao, cap, h1⟩
theorem Out.ints {w X : World} {ao : Option Addr} {cap : Nat} {xs : List Int} (h : Out w (.slice ao xs.length cap) xs X) (hl : xs.length ≤ 17592186044415) (hn : ∀ n ∈ xs, -9223372036854775808 ≤ n ∧ n ≤ 9223372036854775807) : IntsAt X ao xs := own_ints h.own hl hn
abbrev subC (q : Sb) (ca : Option Addr) (cc : Nat) (pa : Option Addr) (pc : Nat) (ea : Option Addr) (ec : Nat) : Array Value := #[.int .i64 q.k, .int .i64 q.o, .int .i64 q.w, .int .i64 q.p, .int .i64 q.h, .slice ca q.C.length cc, .int .i64 q.R.m, .int .i64 q.R.o, .slice pa q.R.P.length pc, .slice ea q.R.E.length ec]
abbrev subV (q : Sb) (ca : Option Addr) (cc : Nat) (pa : Option Addr) (pc : Nat) (ea : Option Addr) (ec : Nat) : Value := .agg (subC q ca cc pa pc ea ec)
abbrev I64 (x : Int) : Prop := -9223372036854775808 ≤ x ∧ x ≤ 9223372036854775807
structure SbAt (w : World) (q : Sb) (ca pa ea : Option Addr) : Prop where
 C : IntsAt w ca q.C
 R : RcAt w q.R pa ea
 k : I64 q.k
 o : I64 q.o
 w : I64 q.w
 p : I64 q.p
 h : I64 q.h
theorem SbAt.keep {w w' : World} {q : Sb} {ca pa ea : Option Addr} (a : SbAt w q ca pa ea) (hb : ∀ k, k < w.heap.size → w'.heap[k]? = w.heap[k]?) : SbAt w' q ca pa ea := ⟨a.C.keep hb, a.R.keep hb, a.k, a.o, a.w, a.p, a.h⟩
theorem SbAt.below {w w' : World} {q : Sb} {ca pa ea : Option Addr} (a : SbAt w q ca pa ea) (hb : Below w.heap.size w w') : SbAt w' q ca pa ea := a.keep hb.block
def Fr (n : Nat) (ao : Option Addr) : Prop := ∀ b, blockOf ao = some b → n ≤ b
theorem sub_cells {w : World} {g : Nat} {q : Sb} {ca : Option Addr} {cc : Nat} {pa : Option Addr} {pc : Nat} {ea : Option Addr} {ec : Nat} (h : w.heap[g]? = some (.cells (subC q ca cc pa pc ea ec) 27 (0, 0))) :
  w.cell? ⟨g, 0, none⟩ = some (.int .i64 q.k) ∧ w.cell? ⟨g, 1, none⟩ = some (.int .i64 q.o) ∧ w.cell? ⟨g, 2, none⟩ = some (.int .i64 q.w) ∧ w.cell? ⟨g, 3, none⟩ = some (.int .i64 q.p) ∧ w.cell? ⟨g, 4, none⟩ = some (.int .i64 q.h) ∧ w.cell? ⟨g, 5, none⟩ = some (.slice ca q.C.length cc) ∧ w.cell? ⟨g, 6, none⟩ = some (.int .i64 q.R.m) ∧ w.cell? ⟨g, 7, none⟩ = some (.int .i64 q.R.o) ∧ w.cell? ⟨g, 8, none⟩ = some (.slice pa q.R.P.length pc) ∧ w.cell? ⟨g, 9, none⟩ = some (.slice ea q.R.E.length ec) := by
 refine ⟨?_, ?_, ?_, ?_, ?_, ?_, ?_, ?_, ?_, ?_⟩ <;> (rw [cell_of_row _ _ _ _ _ _ h]; rfl)
theorem ints_same (l : List Int) (a b : Option Addr) (c d : Nat) (w : World) (hl : IntsAt w a l) (hm : IntsAt w b l) :
  Calls Tryz.prog 37 #[.slice a l.length c, .slice b l.length d] w fun e w' => e = .returned (.bool true) ∧ ∃ n, w' = w.drewN n := by
 have h1 := hl.len
 have HL : Hid (IntsAt w a l) := hl
 have HM : Hid (IntsAt w b l) := hm
 clear hl hm
 go_enter Tryz.func37, Tryz.ntmps37
 go_wp2_with fail
 go_loopw [5] (fun t wr => ∃ k n : Nat, k ≤ l.length ∧ t = .int .i64 (k : Int) ∧ wr = w.drewN n) (fun t _ => l.length - (intOf t).toNat)
 case atStart => exact ⟨0, 0, Nat.zero_le _, rfl, rfl⟩
 case round =>
  obtain ⟨k, n, hk, rfl, hw⟩ := hrel
  have HW : Hid (wr = w.drewN n) := hw
  clear hw
  by_cases hlt : k < l.length
  ·obtain ⟨b1, o1, rfl, q1⟩ := HL.out.at k hlt
   obtain ⟨b2, o2, rfl, q2⟩ := HM.out.at k hlt
   have r1 := q1 wr (by rw [HW.out]; exact below_drewN _ _)
   have r2 := q2 wr (by rw [HW.out]; exact below_drewN _ _)
   clear q1 q2
   generalize l.getD k 0 = x at *
   go_wp2_with fail
   go_quiet (fail)
   go_wp2_with fail
   go_roundw
   case rel => exact ⟨k + 1, n + nq, by omega, by go_num, by rw [HW.out, World.drewN_drewN]⟩
   case measure => simp [intOf]; omega
  ·go_wp2_with fail
   go_ret
   exact ⟨rfl, n, HW.out⟩
theorem xfore_spec (C l : List Int) (ca la : Option Addr) (cc lc : Nat) (sh a : Nat) (hsh : sh ≤ 31) (hCa : C.length ≤ a) (hal : a ≤ l.length) (w : World) (hC : IntsAt w ca C) (hl : IntsAt w la l) :
  Calls Tryz.prog 146 #[.slice ca C.length cc, .int .i64 (sh : Int), .slice la l.length lc, .int .i64 (a : Int)] w fun e w' => e = .returned (.int .i64 (foreN C sh l a)) ∧ ∃ n, w' = w.drewN n := by
 have h1 := hl.len
 have HC : Hid (IntsAt w ca C) := hC
 have HL : Hid (IntsAt w la l) := hl
 have HF : Hid (foreN C sh l a = foreS C l a C.length / 2 ^ sh) := rfl
 clear hC hl
 go_enter Tryz.func146, Tryz.ntmps146
 go_wp2_with fail
 go_loopw [9, 10] (fun s t wr => ∃ k n : Nat, k ≤ C.length ∧ t = .int .i64 (k : Int) ∧ s = .int .i64 (foreS C l a k) ∧ wr = w.drewN n) (fun _ t _ => C.length - (intOf t).toNat)
 case atStart => exact ⟨0, 0, Nat.zero_le _, rfl, rfl, rfl⟩
 case round =>
  obtain ⟨k, n, hk, rfl, rfl, hw⟩ := hrel
  have HW : Hid (wr = w.drewN n) := hw
  have hfr := foreS_rng C l a k
  clear hw
  by_cases hlt : k < C.length
  ·obtain ⟨b1, o1, rfl, q1⟩ := HC.out.at k hlt
   obtain ⟨b2, o2, rfl, q2⟩ := HL.out.at (a - 1 - k) (by omega)
   have r1 := q1 wr (by rw [HW.out]; exact below_drewN _ _)
   have r2 := q2 wr (by rw [HW.out]; exact below_drewN _ _)
   have HN : Hid (foreS C l a (k + 1) = wrap64 (foreS C l a k + wrap64 (C.getD k 0 * l.getD (a - 1 - k) 0))) := rfl
   have hix : (a : Int) - 1 - (k : Int) = ((a - 1 - k : Nat) : Int) := by omega
   have hil : a - 1 - k < l.length := by omega
   clear q1 q2
   generalize C.getD k 0 = x at *
   generalize l.getD (a - 1 - k) 0 = y at *
   generalize a - 1 - k = ix at *
   generalize foreS C l a k = su at *
   go_wp2_with fail
   go_quiet (fail)
   go_wp2_with fail
   go_roundw
   case rel => exact ⟨k + 1, n + nq, by omega, by go_num, by rw [HN.out], by rw [HW.out, World.drewN_drewN]⟩
   case measure => simp [intOf]; omega
  ·have hke : k = C.length := by omega
   subst hke
   generalize foreS C l a C.length = su at *
   have hs2 : (sh : Int) ≤ 31 := by omega
   go_wp2_with fail
   go_ret
   exact ⟨by rw [HF.out]; rfl, n, HW.out⟩
theorem rsame_same (c : Rc) (pa : Option Addr) (pc : Nat) (ea : Option Addr) (ec : Nat) (pb : Option Addr) (pd : Nat) (eb : Option Addr) (ed : Nat) (w : World) (hr : RcAt w c pa ea) (hq : RcAt w c pb eb) :
  Calls Tryz.prog 38 #[riceV c pa pc ea ec, riceV c pb pd eb ed] w fun e w' => e = .returned (.bool true) ∧ Below w.heap.size w w' := by
 have HR : Hid (RcAt w c pa ea) := hr
 have HQ : Hid (RcAt w c pb eb) := hq
 have hlP := hr.P.len
 have hlE := hr.E.len
 have HA0 : Hid (RB w c pa pc ea ec ((w.alloc (.cells (riceC c pa pc ea ec) 25)).alloc (.cells (riceC c pb pd eb ed) 25)) ∧ ((w.alloc (.cells (riceC c pa pc ea ec) 25)).alloc (.cells (riceC c pb pd eb ed) 25)).heap[w.heap.size + 1]? = some (.cells (riceC c pb pd eb ed) 25 (0, 0))) := by
  refine ⟨(RB.new w c pa pc ea ec).next ((Below.refl _ _).alloc (Nat.le_refl _) _), ?_⟩
  have hh := heap_alloc_new (w.alloc (.cells (riceC c pa pc ea ec) 25)) (.cells (riceC c pb pd eb ed) 25)
  rw [show (w.alloc (.cells (riceC c pa pc ea ec) 25)).heap.size = w.heap.size + 1 from by simp] at hh
  exact hh
 clear hr hq
 go_enter Tryz.func38, Tryz.ntmps38
 go_wp2_with fail
 generalize hwa : World.alloc _ _ = wa at *
 clear hwa
 go_loopw [5] (fun t wr => ∃ k : Nat, k ≤ c.P.length ∧ t = .int .i64 (k : Int) ∧ RB w c pa pc ea ec wr ∧ wr.heap[w.heap.size + 1]? = some (.cells (riceC c pb pd eb ed) 25 (0, 0))) (fun t _ => c.P.length - (intOf t).toNat)
 case atStart => exact ⟨0, Nat.zero_le _, rfl, HA0.out⟩
 case round =>
  obtain ⟨k, hk, rfl, h1, h2⟩ := hrel
  have HA : Hid (RB w c pa pc ea ec wr ∧ wr.heap[w.heap.size + 1]? = some (.cells (riceC c pb pd eb ed) 25 (0, 0))) := ⟨h1, h2⟩
  have x2 := h1.c2
  have y2 : wr.cell? ⟨w.heap.size + 1, 2, none⟩ = some (.slice pb c.P.length pd) := by rw [cell_of_row _ _ _ _ _ _ h2]; rfl
  by_cases hlt : k < c.P.length
  ·obtain ⟨b1, o1, e1, q1⟩ := HR.out.P.at k hlt
   obtain ⟨b2, o2, e2, q2⟩ := HQ.out.P.at k hlt
   have r1 := q1 wr h1.below
   have r2 := q2 wr h1.below
   rw [e1] at x2
   rw [e2] at y2
   clear q1 q2 e1 e2 h1 h2
   generalize c.P.getD k 0 = x at *
   go_wp2_with fail
   go_quiet (fail)
   go_wp2_with fail
   go_roundw
   case rel => exact ⟨k + 1, by omega, by go_num, HA.out.1.drewN _, HA.out.2⟩
   case measure => simp [intOf]; omega
  ·clear h1 h2
   go_wp2_with fail
   clear HA0
   have HA0 := HA
   clear HA
   go_loopw [6] (fun t wr => ∃ k : Nat, k ≤ c.E.length ∧ t = .int .i64 (k : Int) ∧ RB w c pa pc ea ec wr ∧ wr.heap[w.heap.size + 1]? = some (.cells (riceC c pb pd eb ed) 25 (0, 0))) (fun t _ => c.E.length - (intOf t).toNat)
   case atStart => exact ⟨0, Nat.zero_le _, rfl, HA0.out⟩
   case round =>
    obtain ⟨k, hk, rfl, h1, h2⟩ := hrel
    have HA : Hid (RB w c pa pc ea ec wr ∧ wr.heap[w.heap.size + 1]? = some (.cells (riceC c pb pd eb ed) 25 (0, 0))) := ⟨h1, h2⟩
    have x3 := h1.c3
    have y3 : wr.cell? ⟨w.heap.size + 1, 3, none⟩ = some (.slice eb c.E.length ed) := by rw [cell_of_row _ _ _ _ _ _ h2]; rfl
    by_cases hlt : k < c.E.length
    ·obtain ⟨b1, o1, e1, q1⟩ := HR.out.E.at k hlt
     obtain ⟨b2, o2, e2, q2⟩ := HQ.out.E.at k hlt
     have r1 := q1 wr h1.below
     have r2 := q2 wr h1.below
     rw [e1] at x3
     rw [e2] at y3
     clear q1 q2 e1 e2 h1 h2
     generalize c.E.getD k 0 = x at *
     go_wp2_with fail
     go_quiet (fail)
     go_wp2_with fail
     go_roundw
     case rel => exact ⟨k + 1, by omega, by go_num, HA.out.1.drewN _, HA.out.2⟩
     case measure => simp [intOf]; omega
    ·clear h1 h2
     go_wp2_with fail
     go_ret
     exact ⟨rfl, HA.out.1.below⟩
theorem sub_same (q : Sb) (ca : Option Addr) (cc : Nat) (pa : Option Addr) (pc : Nat) (ea : Option Addr) (ec : Nat) (cb : Option Addr) (cd : Nat) (pb : Option Addr) (pd : Nat) (eb : Option Addr) (ed : Nat) (w : World) (hr : SbAt w q ca pa ea) (hq : SbAt w q cb pb eb) :
  Calls Tryz.prog 10 #[subV q ca cc pa pc ea ec, subV q cb cd pb pd eb ed] w fun e w' => e = .returned (.bool true) ∧ Below w.heap.size w w' := by
 have HA0 : Hid (((w.alloc (.cells (subC q ca cc pa pc ea ec) 27)).alloc (.cells (subC q cb cd pb pd eb ed) 27)).heap[w.heap.size]? = some (.cells (subC q ca cc pa pc ea ec) 27 (0, 0)) ∧ ((w.alloc (.cells (subC q ca cc pa pc ea ec) 27)).alloc (.cells (subC q cb cd pb pd eb ed) 27)).heap[w.heap.size + 1]? = some (.cells (subC q cb cd pb pd eb ed) 27 (0, 0)) ∧ Below w.heap.size w ((w.alloc (.cells (subC q ca cc pa pc ea ec) 27)).alloc (.cells (subC q cb cd pb pd eb ed) 27))) := by
  refine ⟨heap_two _ _ _, ?_, ((Below.refl _ _).alloc (Nat.le_refl _) _).alloc (by simp) _⟩
  have hh := heap_alloc_new (w.alloc (.cells (subC q ca cc pa pc ea ec) 27)) (.cells (subC q cb cd pb pd eb ed) 27)
  rw [show (w.alloc (.cells (subC q ca cc pa pc ea ec) 27)).heap.size = w.heap.size + 1 from by simp] at hh
  exact hh
 have KI : Hid (∀ wx, Below w.heap.size w wx → Calls Tryz.prog 37 #[.slice ca q.C.length cc, .slice cb q.C.length cd] wx fun e w' => e = .returned (.bool true) ∧ ∃ n, w' = wx.drewN n) := fun wx hb => ints_same q.C ca cb cc cd wx (hr.C.below hb) (hq.C.below hb)
 have KR : Hid (∀ wx, Below w.heap.size w wx → Calls Tryz.prog 38 #[riceV q.R pa pc ea ec, riceV q.R pb pd eb ed] wx fun e w' => e = .returned (.bool true) ∧ Below wx.heap.size wx w') := fun wx hb => rsame_same q.R pa pc ea ec pb pd eb ed wx (hr.R.below hb) (hq.R.below hb)
 clear hr hq
 go_enter Tryz.func10, Tryz.ntmps10
 go_upto_region 1 with fail
 generalize hwa : World.alloc _ _ = wa at *
 clear hwa
 obtain ⟨x0, x1, x2, x3, x4, x5, x6, x7, x8, x9⟩ := sub_cells HA0.out.1
 obtain ⟨y0, y1, y2, y3, y4, y5, y6, y7, y8, y9⟩ := sub_cells HA0.out.2.1
 go_wp2_with fail
 refine (KI.out wa HA0.out.2.2).mono ?_
 rintro e w2 ⟨rfl, n2, hw2⟩
 have hb2 : Below wa.heap.size wa w2 := by rw [hw2]; exact below_drewN _ _
 have HB2 : Hid (Below w.heap.size w w2) := HA0.out.2.2.trans (hb2.mono HA0.out.2.2.size)
 have h1 : w2.heap[w.heap.size]? = some (.cells (subC q ca cc pa pc ea ec) 27 (0, 0)) := by rw [hb2.block _ (lt_of_block HA0.out.1)]; exact HA0.out.1
 have h2 : w2.heap[w.heap.size + 1]? = some (.cells (subC q cb cd pb pd eb ed) 27 (0, 0)) := by rw [hb2.block _ (lt_of_block HA0.out.2.1)]; exact HA0.out.2.1
 clear x0 x1 x2 x3 x4 x5 x6 x7 x8 x9 y0 y1 y2 y3 y4 y5 y6 y7 y8 y9 hb2 hw2
 obtain ⟨x0, x1, x2, x3, x4, x5, x6, x7, x8, x9⟩ := sub_cells h1
 obtain ⟨y0, y1, y2, y3, y4, y5, y6, y7, y8, y9⟩ := sub_cells h2
 clear h1 h2
 go_wp2_with fail
 refine (KR.out w2 HB2.out).mono ?_
 rintro e w3 ⟨rfl, hb3⟩
 have HB3 : Hid (Below w.heap.size w w3) := HB2.out.trans (hb3.mono HB2.out.size)
 clear hb3 x0 x1 x2 x3 x4 x5 x6 x7 x8 x9 y0 y1 y2 y3 y4 y5 y6 y7 y8 y9
 go_wp2_with fail
 go_ret
 exact ⟨rfl, HB3.out⟩
theorem xleft_spec (C l : List Int) (ca la : Option Addr) (cc lc : Nat) (sh : Nat) (hsh : sh ≤ 31) (hCl : C.length ≤ l.length) (w : World) (hC : IntsAt w ca C) (hl : IntsAt w la l) :
  Calls Tryz.prog 78 #[.slice ca C.length cc, .int .i64 (sh : Int), .slice la l.length lc] w fun e w' => ∃ v, e = .returned v ∧ Out w v (leftN C sh l (l.length - C.length)) w' := by
 obtain ⟨i3, h3a, h3b, h3c, h3d⟩ := int_info
 have h1 := hl.len
 have KF : Hid (∀ (a : Nat) wx, C.length ≤ a → a ≤ l.length → Below w.heap.size w wx → Calls Tryz.prog 146 #[.slice ca C.length cc, .int .i64 (sh : Int), .slice la l.length lc, .int .i64 (a : Int)] wx fun e w' => e = .returned (.int .i64 (foreN C sh l a)) ∧ ∃ n, w' = wx.drewN n) := fun a wx g1 g2 hb => xfore_spec C l ca la cc lc sh a hsh g1 g2 wx (hC.below hb) (hl.below hb)
 have HL : Hid (IntsAt w la l) := hl
 clear hC hl
 go_enter Tryz.func78, Tryz.ntmps78
 go_wp2_with fail
 go_loopw [7, 8] (fun s t wr => ∃ (i : Nat) (v : Value), C.length ≤ i ∧ i ≤ l.length ∧ t = .int .i64 (i : Int) ∧ s = v ∧ Out w v (leftN C sh l (i - C.length)) wr) (fun _ t _ => l.length - (intOf t).toNat)
 case atStart => exact ⟨C.length, _, Nat.le_refl _, hCl, rfl, rfl, by rw [Nat.sub_self]; exact Out.nil w⟩
 case round =>
  obtain ⟨i, v, hCi, hi, rfl, rfl, hout⟩ := hrel
  obtain ⟨oa, oc, rfl⟩ := hout.shape
  by_cases hlt : i < l.length
  ·obtain ⟨b1, o1, rfl, q1⟩ := HL.out.at i hlt
   have HN : Hid (leftN C sh l (i + 1 - C.length) = leftN C sh l (i - C.length) ++ [wrap64 (l.getD i 0 - foreN C sh l i)]) := by
    show _ = _
    rw [show i + 1 - C.length = (i - C.length) + 1 by omega]
    show leftN C sh l (i - C.length) ++ [wrap64 (l.getD (C.length + (i - C.length)) 0 - foreN C sh l (C.length + (i - C.length)))] = _
    rw [show C.length + (i - C.length) = i by omega]
   have hxl := leftN_len C sh l (i - C.length)
   have hx5 : (leftN C sh l (i - C.length)).length ≤ 17592186044415 := by omega
   clear hxl
   generalize leftN C sh l (i - C.length) = xs at *
   generalize l.getD i 0 = x at *
   have HO : Hid (Out w (.slice oa xs.length oc) xs wr) := hout
   clear hout
   go_wp2_with fail
   refine wp_region_held_drew (S := fun wx => Below w.heap.size w wx) (by kernel_rfl) (HO.out.drew.below) (fun hS => ?_)
   refine wpAnyH_take (i := 0) (v := .slice oa xs.length oc) rfl (by kernel_rfl) (by kernel_rfl) (by kernel_rfl) (fun _ _ _ h => h) (Or.inl ⟨by rfl, fun w hSw => by go_simp⟩) hS ?_
   simp only [Act.put, List.getElem_toArray, List.getElem_cons_succ, List.getElem_cons_zero, List.setIfInBounds_toArray, List.set_cons_zero, List.set_cons_succ]
   refine wpAnyH_take (i := 1) (v := .slice (some ⟨b1, o1, none⟩) l.length lc) rfl (by kernel_rfl) (by kernel_rfl) (by kernel_rfl) (fun _ _ _ h => h) (Or.inl ⟨by rfl, fun w hSw => by go_simp⟩) hS ?_
   simp only [Act.put, List.getElem_toArray, List.getElem_cons_succ, List.getElem_cons_zero, List.setIfInBounds_toArray, List.set_cons_zero, List.set_cons_succ]
   refine wpAnyH_take (i := 2) (v := .int .i64 (i : Int)) rfl (by kernel_rfl) (by kernel_rfl) (by kernel_rfl) (fun _ _ _ h => h) (Or.inl ⟨by rfl, fun w hSw => by go_simp⟩) hS ?_
   simp only [Act.put, List.getElem_toArray, List.getElem_cons_succ, List.getElem_cons_zero, List.setIfInBounds_toArray, List.set_cons_zero, List.set_cons_succ]
   refine wpAnyH_take (i := 3) (v := .pointer (some ⟨b1, o1 + i, none⟩)) rfl (by kernel_rfl) (by kernel_rfl) (by kernel_rfl) (fun _ _ _ h => h) (Or.inl ⟨by rfl, fun w hSw => by go_simp⟩) hS ?_
   simp only [Act.put, List.getElem_toArray, List.getElem_cons_succ, List.getElem_cons_zero, List.setIfInBounds_toArray, List.set_cons_zero, List.set_cons_succ]
   refine wpAnyH_take (i := 4) (v := .int .i64 x) rfl (by kernel_rfl) (by kernel_rfl) (by kernel_rfl) (fun _ _ _ h => h) (Or.inl ⟨by rfl, fun w hSw => by have r1 := q1 w hSw; go_simp⟩) hS ?_
   simp only [Act.put, List.getElem_toArray, List.getElem_cons_succ, List.getElem_cons_zero, List.setIfInBounds_toArray, List.set_cons_zero, List.set_cons_succ]
   refine wpAnyH_take (i := 5) (v := .slice ca C.length cc) rfl (by kernel_rfl) (by kernel_rfl) (by kernel_rfl) (fun _ _ _ h => h) (Or.inl ⟨by rfl, fun w hSw => by go_simp⟩) hS ?_
   simp only [Act.put, List.getElem_toArray, List.getElem_cons_succ, List.getElem_cons_zero, List.setIfInBounds_toArray, List.set_cons_zero, List.set_cons_succ]
   refine wpAnyH_take (i := 6) (v := .int .i64 (sh : Int)) rfl (by kernel_rfl) (by kernel_rfl) (by kernel_rfl) (fun _ _ _ h => h) (Or.inl ⟨by rfl, fun w hSw => by go_simp⟩) hS ?_
   simp only [Act.put, List.getElem_toArray, List.getElem_cons_succ, List.getElem_cons_zero, List.setIfInBounds_toArray, List.set_cons_zero, List.set_cons_succ]
   refine wpAnyH_take (i := 7) (v := .slice (some ⟨b1, o1, none⟩) l.length lc) rfl (by kernel_rfl) (by kernel_rfl) (by kernel_rfl) (fun _ _ _ h => h) (Or.inl ⟨by rfl, fun w hSw => by go_simp⟩) hS ?_
   simp only [Act.put, List.getElem_toArray, List.getElem_cons_succ, List.getElem_cons_zero, List.setIfInBounds_toArray, List.set_cons_zero, List.set_cons_succ]
   refine wpAnyH_take (i := 8) (v := .int .i64 (i : Int)) rfl (by kernel_rfl) (by kernel_rfl) (by kernel_rfl) (fun _ _ _ h => h) (Or.inl ⟨by rfl, fun w hSw => by go_simp⟩) hS ?_
   simp only [Act.put, List.getElem_toArray, List.getElem_cons_succ, List.getElem_cons_zero, List.setIfInBounds_toArray, List.set_cons_zero, List.set_cons_succ]
   refine wpAnyH_ready (rs := [9]) (by kernel_rfl) (by simp) ?_
   refine AllReadyH.cons rfl (fun K hK => ?_) AllReadyH.nil
   go_simp
   refine (KF.out i _ hCi (by omega) hS).mono ?_
   rintro e w5 ⟨rfl, n5, rfl⟩
   have HO5 : Hid (Out w (.slice oa xs.length oc) xs (wr.drew.drewN n5)) := HO.out.drew.low (below_drewN _ _)
   generalize hw5 : wr.drew.drewN n5 = w5 at *
   clear hw5
   generalize foreN C sh l i = fo at *
   refine hK.out _ _ (HO5.out.below) (fun hS9 => ?_)
   clear hK K
   refine wpAnyH_take (i := 10) (v := .int .i64 (wrap64 (x - fo))) rfl (by kernel_rfl) (by kernel_rfl) (by kernel_rfl) (fun _ _ _ h => h) (Or.inl ⟨by rfl, fun w hSw => by go_simp; exact wrap_is _⟩) hS9 ?_
   simp only [Act.put, List.getElem_toArray, List.getElem_cons_succ, List.getElem_cons_zero, List.setIfInBounds_toArray, List.set_cons_zero, List.set_cons_succ]
   refine wpAnyH_ready (rs := [11]) (by kernel_rfl) (by simp) ?_
   refine AllReadyH.cons rfl (fun K hK => ?_) AllReadyH.nil
   go_simp
   refine hK.out _ _ ((HO5.out.alloc _).below) (fun hSbA => ?_)
   clear hK K
   try simp only [Act.put, List.getElem_toArray, List.getElem_cons_succ, List.getElem_cons_zero, List.setIfInBounds_toArray, List.set_cons_zero, List.set_cons_succ]
   refine wpAnyH_ready (rs := [12]) (by kernel_rfl) (by simp) ?_
   refine AllReadyH.cons rfl (fun K hK => ?_) AllReadyH.nil
   refine step_append_lies _ (by rfl) _ _ _ (by rfl) w.heap.size 3 i3 (.int .i64 0) 1 8 undI3 h3a h3b h3c h3d rfl (by decide) (.slice oa xs.length oc) xs.length (intsC xs) (by rfl) (HO5.out.alloc _).own ⟨w5.heap.size, 0, none⟩ 1 1 [.int .i64 (wrap64 (x - fo))] (by rfl) (by rfl) (World.news_of_block (cs := #[.int .i64 (wrap64 (x - fo))]) (t := 3) (fr := (0, 0)) (tmp_new w5 _)) (one_int _ _) (by decide) (by unfold maxLen; omega) (by omega) (HO5.out.alloc _).below.size _ rfl ?_
   intro gA cA wA ownA groA hatA hltA
   have HPA : Hid (Out w (.slice (some ⟨gA, 0, none⟩) (xs.length + 1) cA) (xs ++ [(wrap64 (x - fo))]) wA) := (HO5.out.alloc _).push ownA groA
   clear ownA groA hatA hltA
   refine hK.out _ _ (HPA.out.below) (fun hSaA => ?_)
   clear hK K
   try simp only [Act.put, List.getElem_toArray, List.getElem_cons_succ, List.getElem_cons_zero, List.setIfInBounds_toArray, List.set_cons_zero, List.set_cons_succ]
   refine wpAnyH_take (i := 13) (v := .slice (some ⟨gA, 0, none⟩) (xs.length + 1) cA) rfl (by kernel_rfl) (by kernel_rfl) (by kernel_rfl) (fun _ _ _ h => h) (Or.inl ⟨by rfl, fun w hSw => by go_simp⟩) hSaA ?_
   simp only [Act.put, List.getElem_toArray, List.getElem_cons_succ, List.getElem_cons_zero, List.setIfInBounds_toArray, List.set_cons_zero, List.set_cons_succ]
   refine wpAnyH_done (by kernel_rfl) ?_ _
   go_wp2_with fail
   go_roundw
   case rel => exact ⟨i + 1, _, by omega, by omega, by go_num, rfl, by rw [HN.out]; exact HPA.out⟩
   case measure => simp [intOf]; omega
  ·have hie : i = l.length := by omega
   subst hie
   have HO : Hid (Out w (.slice oa (leftN C sh l (l.length - C.length)).length oc) (leftN C sh l (l.length - C.length)) wr) := hout
   clear hout
   go_wp2_with fail
   go_ret
   exact ⟨_, rfl, HO.out⟩
theorem xweights_spec (o : Nat) (ho : o ≤ 4) (w : World) : Calls Tryz.prog 79 #[.int .i64 (o : Int)] w fun e w' => ∃ ca cc, e = .returned (.slice ca (wF o).length cc) ∧ IntsAt w' ca (wF o) ∧ Below w.heap.size w w' := by
 rcases (show o = 0 ∨ o = 1 ∨ o = 2 ∨ o = 3 ∨ o = 4 by omega) with rfl | rfl | rfl | rfl | rfl
 ·go_enter Tryz.func79, Tryz.ntmps79
  go_wp2_with fail
  go_ret
  exact ⟨none, 0, rfl, IntsAt.nil w, Below.refl _ _⟩
 ·have HI : Hid (IntsAt (w.alloc (.cells #[.int .i64 1] 3)) (some ⟨w.heap.size, 0, none⟩) (wF 1)) := ints_new w (wF 1) (by decide) (by decide)
  have HB : Hid (Below w.heap.size w (w.alloc (.cells #[.int .i64 1] 3))) := (Below.refl _ _).alloc (Nat.le_refl _) _
  go_enter Tryz.func79, Tryz.ntmps79
  go_wp2_with fail
  go_ret
  exact ⟨_, _, rfl, HI.out, HB.out⟩
 ·have HI : Hid (IntsAt (w.alloc (.cells #[.int .i64 2, .int .i64 (-1)] 3)) (some ⟨w.heap.size, 0, none⟩) (wF 2)) := ints_new w (wF 2) (by decide) (by decide)
  have HB : Hid (Below w.heap.size w (w.alloc (.cells #[.int .i64 2, .int .i64 (-1)] 3))) := (Below.refl _ _).alloc (Nat.le_refl _) _
  go_enter Tryz.func79, Tryz.ntmps79
  go_wp2_with fail
  go_ret
  exact ⟨_, _, rfl, HI.out, HB.out⟩
 ·have HI : Hid (IntsAt (w.alloc (.cells #[.int .i64 3, .int .i64 (-3), .int .i64 1] 3)) (some ⟨w.heap.size, 0, none⟩) (wF 3)) := ints_new w (wF 3) (by decide) (by decide)
  have HB : Hid (Below w.heap.size w (w.alloc (.cells #[.int .i64 3, .int .i64 (-3), .int .i64 1] 3))) := (Below.refl _ _).alloc (Nat.le_refl _) _
  go_enter Tryz.func79, Tryz.ntmps79
  go_wp2_with fail
  go_ret
  exact ⟨_, _, rfl, HI.out, HB.out⟩
 ·have HI : Hid (IntsAt (w.alloc (.cells #[.int .i64 4, .int .i64 (-6), .int .i64 4, .int .i64 (-1)] 3)) (some ⟨w.heap.size, 0, none⟩) (wF 4)) := ints_new w (wF 4) (by decide) (by decide)
  have HB : Hid (Below w.heap.size w (w.alloc (.cells #[.int .i64 4, .int .i64 (-6), .int .i64 4, .int .i64 (-1)] 3))) := (Below.refl _ _).alloc (Nat.le_refl _) _
  go_enter Tryz.func79, Tryz.ntmps79
  go_wp2_with fail
  go_ret
  exact ⟨_, _, rfl, HI.out, HB.out⟩
end Go.Proofs.YthgpleelpeacjaaGreatDoor
