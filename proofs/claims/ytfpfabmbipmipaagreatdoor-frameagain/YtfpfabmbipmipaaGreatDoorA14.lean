/- Own text. -/
import Derived.Test.YtfpfabmbipmipaaGreatDoorA13
set_option linter.unusedSimpArgs false
set_option linter.unusedVariables false
set_option maxRecDepth 20000
set_option maxHeartbeats 12800000
namespace Go.Proofs.YtfpfabmbipmipaaGreatDoor
open Go.RowKit
structure Sb where
 k : Int
 o : Int
 w : Int
 p : Int
 h : Int
 C : List Int
 R : Rc
abbrev bareOk (s : Sb) : Prop := s.p = 0 /\ s.h = 0 /\ s.C = []
abbrev plnOk (s : Sb) : Prop := s.o = 0 /\ s.R = ⟨0, 0, [], []⟩
abbrev kdA (s : Sb) : Prop := (s.k = 0 ∨ s.k = 1) /\ bareOk s /\ plnOk s
abbrev kdF (s : Sb) (b : Int) : Prop := s.k = 2 /\ bareOk s /\ 0 <= s.o /\ s.o <= 4 /\ s.o <= b /\ chkOk s.R b s.o
abbrev kdL (s : Sb) (b : Int) : Prop := s.k = 3 /\ 1 <= s.o /\ s.o <= 32 /\ s.o <= b /\ 1 <= s.p /\ s.p <= 15 /\ 0 <= s.h /\ s.h <= 15 /\ (s.C.length : Int) = s.o /\ (∀ x ∈ s.C, sigE x s.p = 0) /\ chkOk s.R b s.o
abbrev subOk (s : Sb) (b v : Int) : Prop := (1 <= b /\ b <= 65535) /\ (1 <= v /\ v <= 33) /\ (0 <= s.w /\ s.w < v) /\ (kdA s ∨ kdF s b ∨ kdL s b)
def resN (s : Sb) (m : List Int) : List Int := if s.k = 2 then leftN (wF s.o.toNat) 0 m (m.length - s.o.toNat) else leftN s.C s.h.toNat m (m.length - s.o.toNat)
abbrev goesOk (s : Sb) (v : Int) (l : List Int) : Prop := (∀ x ∈ l, sigE x v = 0) /\ dvB l s.w.toNat = true /\ (s.k = 0 -> ∀ x ∈ l, x = l.getD 0 0) /\ (s.k = 2 ∨ s.k = 3 -> encR s.R l.length s.o (resN s (shrL l s.w.toNat)) = true)
def typN (s : Sb) : Int := if s.k = 0 then 0 else if s.k = 1 then 1 else if s.k = 2 then 8 + s.o else 31 + s.o
def wstB (w : Int) : List Nat := if 0 < w then putB 1 1 ++ unrB (w - 1) else putB 0 1
def bodyB (s : Sb) (v : Int) (m : List Int) : List Nat :=
 if s.k = 0 then sigB (m.getD 0 0) (v - s.w)
 else if s.k = 1 then numsB 0 (v - s.w) m
 else if s.k = 2 then numsB 0 (v - s.w) (m.take s.o.toNat) ++ encB s.R m.length s.o.toNat (resN s m)
 else numsB 0 (v - s.w) (m.take s.o.toNat) ++ (putB (s.p - 1) 4 ++ (putB s.h 5 ++ (numsB 0 s.p s.C ++ encB s.R m.length s.o.toNat (resN s m))))
def subB (s : Sb) (v : Int) (l : List Int) : List Nat := putB (typN s) 7 ++ (wstB s.w ++ bodyB s v (shrL l s.w.toNat))
theorem sigE_iff (x v : Int) : sigE x v = 0 ↔ 1 <= v /\ v <= 64 /\ -2 ^ (v.toNat - 1) <= x /\ x < 2 ^ (v.toNat - 1) := by
 unfold sigE
 constructor
 ·intro h
  split at h
  ·assumption
  ·cases h
 ·intro h; rw [if_pos h]
theorem fit0 (v x : Int) (h0 : ¬ v = -1) (h1 : ¬ v = 0) : fitE 0 v x ↔ sigE x v = 0 := by unfold fitE; rw [if_neg h0, if_neg h1]
theorem pow_int (k : Nat) : (2 : Int) ^ k = ((2 ^ k : Nat) : Int) := by simp
theorem fit_div (x : Int) (v w : Nat) (hw : w < v) (hf : sigE x v = 0) (hd : x % 2 ^ w = 0) : sigE (x / 2 ^ w) ((v - w : Nat) : Int) = 0 := by
 rw [sigE_iff] at hf ⊢
 obtain ⟨h1, h2, h3, h4⟩ := hf
 rw [Int.toNat_natCast] at h3 h4 ⊢
 have hp : (2 : Int) ^ (v - 1) = 2 ^ (v - w - 1) * 2 ^ w := by rw [<- Int.pow_add]; congr 1; omega
 have hq : (0 : Int) < 2 ^ w := Int.pow_pos (by decide)
 have hx : x / 2 ^ w * 2 ^ w = x := Int.ediv_mul_cancel (Int.dvd_of_emod_eq_zero hd)
 rw [hp] at h3 h4
 refine ⟨by omega, by omega, ?_, ?_⟩
 ·rw [<- hx, <- Int.neg_mul] at h3
  exact Int.le_of_mul_le_mul_right h3 hq
 ·rw [<- hx] at h4
  exact Int.lt_of_mul_lt_mul_right h4 (Int.le_of_lt hq)
theorem fit_mul (x : Int) (v w : Nat) (hw : w < v) (hv : v <= 64) (hf : sigE x ((v - w : Nat) : Int) = 0) : sigE (x * 2 ^ w) v = 0 := by
 rw [sigE_iff] at hf ⊢
 obtain ⟨h1, h2, h3, h4⟩ := hf
 rw [Int.toNat_natCast] at h3 h4 ⊢
 have hp : (2 : Int) ^ (v - 1) = 2 ^ (v - w - 1) * 2 ^ w := by rw [<- Int.pow_add]; congr 1; omega
 have hq : (0 : Int) < 2 ^ w := Int.pow_pos (by decide)
 rw [hp]
 refine ⟨by omega, by omega, ?_, ?_⟩
 ·rw [<- Int.neg_mul]
  exact Int.mul_le_mul_of_nonneg_right h3 (Int.le_of_lt hq)
 ·exact Int.mul_lt_mul_of_pos_right h4 hq
theorem fit_rng (l : List Int) (v : Int) (h : ∀ x ∈ l, sigE x v = 0) : Rng l := fun x hx => by
 obtain ⟨h1, h2, h3, h4⟩ := (sigE_iff x v).1 (h x hx)
 have hp : (2 : Nat) ^ (v.toNat - 1) <= 2 ^ 63 := Nat.pow_le_pow_right (by decide) (by omega)
 have e63 : (2 : Nat) ^ 63 = 9223372036854775808 := by decide
 rw [pow_int] at h3 h4
 omega
theorem wholeN_pre (C : List Int) (sh : Nat) (warm r : List Int) (n N j : Nat) (hn : n <= N) (hj : j < warm.length + n) : (wholeN C sh warm r N).getD j 0 = (wholeN C sh warm r n).getD j 0 := by
 induction N with
 | zero => rw [show n = 0 by omega]
 | succ N ih =>
  by_cases e : n = N + 1
  ·rw [e]
  ·have hl := wholeN_len C sh warm r N
   have hs : wholeN C sh warm r (N + 1) = wholeN C sh warm r N ++ [wrap64 (r.getD N 0 + foreN C sh (wholeN C sh warm r N) (warm.length + N))] := rfl
   rw [hs, getD_app_left _ _ _ (by omega)]
   exact ih (by omega)
theorem wholeN_at (C : List Int) (sh : Nat) (warm r : List Int) (N i : Nat) (hi : i < N) : (wholeN C sh warm r N).getD (warm.length + i) 0 = wrap64 (r.getD i 0 + foreN C sh (wholeN C sh warm r i) (warm.length + i)) := by
 rw [wholeN_pre C sh warm r (i + 1) N _ (by omega) (by omega)]
 have hl := wholeN_len C sh warm r i
 have h2 := getD_app_len (wholeN C sh warm r i) (wrap64 (r.getD i 0 + foreN C sh (wholeN C sh warm r i) (warm.length + i)))
 rw [hl] at h2
 exact h2
theorem left_whole (C : List Int) (sh : Nat) (warm r : List Int) (hC : C.length = warm.length) (hr : Rng r) (N n : Nat) (hN : N <= r.length) (hn : n <= N) : leftN C sh (wholeN C sh warm r N) n = r.take n := by
 induction n with
 | zero => rfl
 | succ n ih =>
  unfold leftN
  have h1 := wholeN_at C sh warm r N n (by omega)
  have h3 := foreN_congr C sh (wholeN C sh warm r N) (wholeN C sh warm r n) (warm.length + n) (by omega) (fun j hj => wholeN_pre C sh warm r n N j (by omega) hj)
  have h4 := rng_at r hr n
  have h5 := foreN_rng C sh (wholeN C sh warm r n) (warm.length + n)
  rw [ih (by omega), hC, h3, h1]
  have e : wrap64 (wrap64 (r.getD n 0 + foreN C sh (wholeN C sh warm r n) (warm.length + n)) - foreN C sh (wholeN C sh warm r n) (warm.length + n)) = r.getD n 0 := by
   generalize r.getD n 0 = x at *
   generalize foreN C sh (wholeN C sh warm r n) (warm.length + n) = f at *
   unfold wrap64; omega
  rw [e, take_next r n (by omega)]
theorem shl_len (l : List Int) (k : Nat) : (shlL l k).length = l.length := List.length_map ..
theorem shr_len (l : List Int) (k : Nat) : (shrL l k).length = l.length := List.length_map ..
theorem wrap_id (x : Int) (h : -9223372036854775808 <= x /\ x <= 9223372036854775807) : wrap64 x = x := by unfold wrap64; omega
theorem shl_fit (m : List Int) (v w : Nat) (hw : w < v) (hv : v <= 64) (h : ∀ x ∈ m, sigE x ((v - w : Nat) : Int) = 0) : (∀ x ∈ shlL m w, sigE x v = 0) /\ dvB (shlL m w) w = true /\ shrL (shlL m w) w = m := by
 have hq : (2 : Int) ^ w ≠ 0 := Int.ne_of_gt (Int.pow_pos (by decide))
 have hx : ∀ x ∈ m, sigE (x * 2 ^ w) v = 0 /\ wrap64 (x * 2 ^ w) = x * 2 ^ w := fun x hx => by
  have h1 := fit_mul x v w hw hv (h x hx)
  exact ⟨h1, wrap_id _ (fit_rng [x * 2 ^ w] v (fun y hy => by rw [List.mem_singleton] at hy; rw [hy]; exact h1) _ (by simp))⟩
 refine ⟨?_, ?_, ?_⟩
 ·intro y hy
  obtain ⟨x, hm, rfl⟩ := List.mem_map.1 hy
  rw [(hx x hm).2]; exact (hx x hm).1
 ·rw [dvB_iff]
  intro y hy
  obtain ⟨x, hm, rfl⟩ := List.mem_map.1 hy
  rw [(hx x hm).2]
  exact Int.mul_emod_left x (2 ^ w)
 ·unfold shrL shlL
  rw [List.map_map]
  have e : ∀ x ∈ m, ((fun n => n / 2 ^ w) ∘ fun n => wrap64 (n * 2 ^ w)) x = x := fun x hm => by
   show wrap64 (x * 2 ^ w) / 2 ^ w = x
   rw [(hx x hm).2]
   exact Int.mul_ediv_cancel x hq
  rw [List.map_congr_left e, List.map_id']
theorem shr_fit (l : List Int) (v w : Nat) (hw : w < v) (h : ∀ x ∈ l, sigE x v = 0) (hd : dvB l w = true) : ∀ x ∈ shrL l w, sigE x ((v - w : Nat) : Int) = 0 := fun y hy => by
 obtain ⟨x, hm, rfl⟩ := List.mem_map.1 hy
 exact fit_div x v w hw (h x hm) ((dvB_iff l w).1 hd x hm)
theorem fitE_rng (k e x : Int) (he : e <= 31) (h : fitE k e x) : -9223372036854775808 <= x /\ x <= 9223372036854775807 := by
 unfold fitE at h
 split at h
 ·unfold rcwE at h
  split at h
  ·rename_i hc
   obtain ⟨h0, h1, h2⟩ := hc
   have hp : (2 : Nat) ^ k.toNat <= 2 ^ 30 := Nat.pow_le_pow_right (by decide) (by omega)
   have e30 : (2 : Nat) ^ 30 = 1073741824 := by decide
   have hp0 : 0 < (2 : Nat) ^ k.toNat := Nat.two_pow_pos _
   have h3 : foldN x < (16777216 + 1) * 2 ^ k.toNat := (Nat.div_lt_iff_lt_mul hp0).1 (by omega)
   have h4 : (16777216 + 1) * 2 ^ k.toNat <= (16777216 + 1) * 1073741824 := Nat.mul_le_mul_left _ (by omega)
   by_cases hx : 0 <= x
   ·have := foldN_pos x hx; omega
   ·have := foldN_neg x (by omega); omega
  ·cases h
 ·split at h
  ·omega
  ·exact fit_rng [x] e (fun y hy => by rw [List.mem_singleton] at hy; rw [hy]; exact h) x (by simp)
theorem mem_part (l : List Int) {b o r : Nat} (hC : Cut b o r) (hl : l.length = b - r) (x : Int) (hx : x ∈ l) : ∃ i, i < 2 ^ o /\ x ∈ partN l b o r i := by
 have hall : ∀ n, n <= 2 ^ o -> ∀ y ∈ l.take (frN b o r n), ∃ i, i < n /\ y ∈ partN l b o r i := by
  intro n hn
  induction n with
  | zero => intro y hy; rw [frN_zero] at hy; simp at hy
  | succ n ih =>
   intro y hy
   rw [<- take_part'] at hy
   rcases List.mem_append.1 hy with hy | hy
   ·obtain ⟨i, h1, h2⟩ := ih (by omega) y hy
    exact ⟨i, by omega, h2⟩
   ·exact ⟨n, by omega, hy⟩
 have := hall (2 ^ o) (Nat.le_refl _) x (by rw [hC.total, <- hl, List.take_length]; exact hx)
 exact this
theorem encR_rng {c : Rc} {b r : Int} {l : List Int} (h : encR c b r l = true) : Rng l := fun x hx => by
 obtain ⟨b', o', r', rfl, rfl, hk, hf⟩ := encR_yes h
 obtain ⟨hl, hfit⟩ := (fitB_iff c b' o' r' l).1 hf
 obtain ⟨i, hi, hp⟩ := mem_part l hk.cut hl x hx
 have hrow := hk.row i hi
 exact fitE_rng (c.P.getD i 0) (c.E.getD i 0) x (by omega) (hfit i hi x hp)
theorem encR_len {c : Rc} {b r : Int} {l : List Int} (h : encR c b r l = true) : (l.length : Int) = b - r := by
 obtain ⟨b', o', r', rfl, rfl, hk, hf⟩ := encR_yes h
 have := ((fitB_iff c b' o' r' l).1 hf).1
 have := hk.cut.rb
 omega
abbrev R0 : Rc := ⟨0, 0, [], []⟩
def typK (k o : Int) : Int := if k = 0 then 0 else if k = 1 then 1 else if k = 2 then 8 + o else 31 + o
theorem typN_is (s : Sb) : typN s = typK s.k s.o := rfl
def kindN (t : Int) : Option (Int × Int) := if t = 0 then some (0, 0) else if t = 1 then some (1, 0) else if 8 <= t /\ t <= 12 then some (2, t - 8) else if 32 <= t /\ t <= 63 then some (3, t - 31) else none
abbrev kinds (k o : Int) : Prop := (k = 0 /\ o = 0) ∨ (k = 1 /\ o = 0) ∨ (k = 2 /\ 0 <= o /\ o <= 4) ∨ (k = 3 /\ 1 <= o /\ o <= 32)
theorem kindN_some {t k o : Int} (h : kindN t = some (k, o)) : kinds k o /\ typK k o = t := by
 unfold kindN at h
 unfold kinds typK
 split at h
 ·cases h; refine ⟨by omega, ?_⟩; rw [if_pos rfl]; omega
 ·split at h
  ·cases h; refine ⟨by omega, ?_⟩; rw [if_neg (by decide), if_pos rfl]; omega
  ·split at h
   ·cases h; refine ⟨by omega, ?_⟩; rw [if_neg (by decide), if_neg (by decide), if_pos rfl]; omega
   ·split at h
    ·cases h; refine ⟨by omega, ?_⟩; rw [if_neg (by decide), if_neg (by decide), if_neg (by decide)]; omega
    ·cases h
theorem typK_2 (o : Int) : typK 2 o = 8 + o := by unfold typK; rw [if_neg (by decide), if_neg (by decide), if_pos rfl]
theorem typK_3 (o : Int) : typK 3 o = 31 + o := by unfold typK; rw [if_neg (by decide), if_neg (by decide), if_neg (by decide)]
theorem kindN_typ {k o : Int} (h : kinds k o) : kindN (typK k o) = some (k, o) /\ 0 <= typK k o /\ typK k o <= 63 := by
 unfold kinds at h
 rcases h with ⟨rfl, rfl⟩ | ⟨rfl, rfl⟩ | ⟨rfl, h1, h2⟩ | ⟨rfl, h1, h2⟩
 ·exact ⟨rfl, by decide, by decide⟩
 ·exact ⟨rfl, by decide, by decide⟩
 ·rw [typK_2]
  refine ⟨?_, by omega, by omega⟩
  unfold kindN
  rw [if_neg (by omega), if_neg (by omega), if_pos (by omega), show 8 + o - 8 = o by omega]
 ·rw [typK_3]
  refine ⟨?_, by omega, by omega⟩
  unfold kindN
  rw [if_neg (by omega), if_neg (by omega), if_neg (by omega), if_pos (by omega), show 31 + o - 31 = o by omega]
def rdW (s : ByteArray) (a : Nat) (v : Int) : Option (Int × Nat) :=
 if getE s a 1 = 0 then
  if getV s a 1 = 1 then
   (if unaE s (getA s a 1) = 0 /\ unaV s (getA s a 1) + 1 < v then some (unaV s (getA s a 1) + 1, unaA s (getA s a 1)) else none)
  else some (0, getA s a 1)
 else none
def rdSHead (s : ByteArray) (a : Nat) (b v : Int) : Option (Int × Int × Int × Nat) :=
 if getE s a 7 = 0 then
  match kindN (getV s a 7) with
  | none => none
  | some (k, o) => match rdW s (getA s a 7) v with
   | none => none
   | some (w, a1) => if o <= b then some (k, o, w, a1) else none
 else none
structure Bd where
 m : List Int
 p : Int
 h : Int
 C : List Int
 R : Rc
 a : Nat
def rdRes (s : ByteArray) (a : Nat) (b : Int) (o p h : Int) (C D W : List Int) : Option Bd :=
 match decP s a b o with
 | none => none
 | some (c, r, a2) => some ⟨wholeN D h.toNat W r r.length, p, h, C, c, a2⟩
def rdLpc (s : ByteArray) (a : Nat) (b o : Int) (W : List Int) : Option Bd :=
 if getE s a 4 = 0 /\ ¬ getV s a 4 = 15 /\ getE s (getA s a 4) 5 = 0 /\ getV s (getA s a 4) 5 <= 15 then
  match rdAll s 0 (getV s a 4 + 1) o.toNat (getA s (getA s a 4) 5) with
  | none => none
  | some (C, a1) => rdRes s a1 b o (getV s a 4 + 1) (getV s (getA s a 4) 5) C C W
 else none
def rdSBody (s : ByteArray) (a : Nat) (b v k o : Int) : Option Bd :=
 if k = 0 then (if sgnE s a v = 0 then some ⟨List.replicate b.toNat (sgnV s a v), 0, 0, [], R0, sgnA s a v⟩ else none)
 else if k = 1 then (match rdAll s 0 v b.toNat a with
  | none => none
  | some (m, a1) => some ⟨m, 0, 0, [], R0, a1⟩)
 else match rdAll s 0 v o.toNat a with
  | none => none
  | some (W, a1) => if k = 2 then rdRes s a1 b o 0 0 [] (wF o.toNat) W else rdLpc s a1 b o W
def decS (s : ByteArray) (a : Nat) (b v : Int) : Option (List Int × Sb × Nat) :=
 match rdSHead s a b v with
 | none => none
 | some (k, o, w, a1) => match rdSBody s a1 b (v - w) k o with
  | none => none
  | some d => if allT 0 (v - w) d.m = true then some (shlL d.m w.toNat, ⟨k, o, w, d.p, d.h, d.C, d.R⟩, d.a) else none
theorem getV_1 (s : ByteArray) (a : Nat) : 0 <= getV s a 1 /\ getV s a 1 <= 1 := by
 have h := getV_bound s a 1
 have hp : (2 : Int) ^ (1 : Int).toNat = 2 := rfl
 rw [hp] at h; omega
theorem unaV_pos (s : ByteArray) (a : Nat) : 0 <= unaV s a := by unfold unaV; split <;> omega
theorem rdW_again {s : ByteArray} {a : Nat} {v w : Int} {a1 : Nat} (hv : 1 <= v) (h : rdW s a v = some (w, a1)) : (0 <= w /\ w < v) /\ ahead s a = wstB w ++ ahead s a1 /\ a1 = a + (wstB w).length := by
 unfold rdW at h
 split at h
 ·rename_i g
  obtain ⟨_, p2, p3⟩ := get_again s a 1 g
  split at h
  ·rename_i g1
   split at h
   ·rename_i g2
    obtain ⟨_, q2, q3⟩ := una_again s (getA s a 1) g2.1
    cases h
    have hp := unaV_pos s (getA s a 1)
    rw [g1] at p2 p3
    refine ⟨by omega, ?_, ?_⟩
    ·unfold wstB
     rw [if_pos (by omega), show unaV s (getA s a 1) + 1 - 1 = unaV s (getA s a 1) by omega, List.append_assoc, <- q2, <- p2]
    ·unfold wstB
     rw [if_pos (by omega), show unaV s (getA s a 1) + 1 - 1 = unaV s (getA s a 1) by omega, List.length_append]
     omega
   ·cases h
  ·rename_i g1
   cases h
   have h1 := getV_1 s a
   have e : getV s a 1 = 0 := by omega
   rw [e] at p2 p3
   refine ⟨by omega, ?_, ?_⟩
   ·unfold wstB; rw [if_neg (by omega)]; exact p2
   ·unfold wstB; rw [if_neg (by omega)]; exact p3
 ·cases h
theorem head10_again {s : ByteArray} {a : Nat} {b v k o w : Int} {a1 : Nat} (hv : 1 <= v) (h : rdSHead s a b v = some (k, o, w, a1)) :
  kinds k o /\ o <= b /\ (0 <= w /\ w < v) /\ ahead s a = putB (typK k o) 7 ++ (wstB w ++ ahead s a1) /\ a1 = a + (putB (typK k o) 7).length + (wstB w).length := by
 unfold rdSHead at h
 split at h
 ·rename_i g
  obtain ⟨_, p2, p3⟩ := get_again s a 7 g
  cases hk : kindN (getV s a 7) with
  | none => rw [hk] at h; cases h
  | some q =>
   obtain ⟨k', o'⟩ := q
   rw [hk] at h
   simp only at h
   obtain ⟨hk1, hk2⟩ := kindN_some hk
   cases hw : rdW s (getA s a 7) v with
   | none => rw [hw] at h; cases h
   | some q2 =>
    obtain ⟨w', a'⟩ := q2
    rw [hw] at h
    simp only at h
    obtain ⟨w1, w2, w3⟩ := rdW_again hv hw
    split at h
    ·rename_i hob
     cases h
     rw [<- hk2] at p2 p3
     refine ⟨hk1, hob, w1, ?_, ?_⟩
     ·rw [<- w2, <- p2]
     ·omega
    ·cases h
 ·cases h
theorem res_again {s : ByteArray} {a : Nat} {b o p h : Int} {C D W : List Int} {d : Bd} (hD : D.length = W.length) (hW : (W.length : Int) = o) (hq : rdRes s a b o p h C D W = some d) :
  d.p = p /\ d.h = h /\ d.C = C /\ (d.m.length : Int) = b /\ d.m.take o.toNat = W /\ leftN D h.toNat d.m (d.m.length - o.toNat) = leftN D h.toNat d.m (d.m.length - o.toNat) /\ encR d.R b o (leftN D h.toNat d.m (d.m.length - o.toNat)) = true /\ ahead s a = encB d.R b.toNat o.toNat (leftN D h.toNat d.m (d.m.length - o.toNat)) ++ ahead s d.a /\ d.a = a + (encB d.R b.toNat o.toNat (leftN D h.toNat d.m (d.m.length - o.toNat))).length := by
 unfold rdRes at hq
 cases hd : decP s a b o with
 | none => rw [hd] at hq; cases hq
 | some q =>
  obtain ⟨c, r, a2⟩ := q
  rw [hd] at hq
  simp only [Option.some.injEq] at hq
  subst hq
  obtain ⟨e1, e2, e3⟩ := dec_again hd
  have hl := encR_len e1
  have hr := encR_rng e1
  have hwl := wholeN_len D h.toNat W r r.length
  have hw := left_whole D h.toNat W r hD hr r.length r.length (Nat.le_refl _) (Nat.le_refl _)
  rw [List.take_length] at hw
  have hn : (wholeN D h.toNat W r r.length).length - o.toNat = r.length := by omega
  have ht : (wholeN D h.toNat W r r.length).take o.toNat = W := by
   have e : o.toNat = W.length := by omega
   rw [e]
   apply List.ext_getElem?
   intro j
   by_cases hj : j < W.length
   ·have h1 := wholeN_pre D h.toNat W r 0 r.length j (Nat.zero_le _) (by omega)
    rw [List.getElem?_take, if_pos hj, List.getElem?_eq_getElem (by omega), List.getElem?_eq_getElem hj]
    have h2 : (wholeN D h.toNat W r 0).getD j 0 = W.getD j 0 := rfl
    rw [h2, List.getD_eq_getElem?_getD, List.getD_eq_getElem?_getD, List.getElem?_eq_getElem (by omega), List.getElem?_eq_getElem hj] at h1
    exact congrArg some h1
   ·rw [List.getElem?_eq_none (by rw [List.length_take]; omega), List.getElem?_eq_none (by omega)]
  refine ⟨rfl, rfl, rfl, ?_, ht, rfl, ?_, ?_, ?_⟩
  ·show ((wholeN D h.toNat W r r.length).length : Int) = b
   omega
  ·show encR c b o (leftN D h.toNat (wholeN D h.toNat W r r.length) ((wholeN D h.toNat W r r.length).length - o.toNat)) = true
   rw [hn, hw]; exact e1
  ·show ahead s a = encB c b.toNat o.toNat (leftN D h.toNat (wholeN D h.toNat W r r.length) ((wholeN D h.toNat W r r.length).length - o.toNat)) ++ ahead s a2
   rw [hn, hw]; exact e2
  ·show a2 = a + (encB c b.toNat o.toNat (leftN D h.toNat (wholeN D h.toNat W r r.length) ((wholeN D h.toNat W r r.length).length - o.toNat))).length
   rw [hn, hw]; exact e3
theorem encR_chk {c : Rc} {b r : Int} {l : List Int} (h : encR c b r l = true) : chkOk c b r := of_decide_eq_true (Bool.and_eq_true_iff.1 h).1
theorem body_again {s : ByteArray} {a : Nat} {b v k o w : Int} {d : Bd} (hk : kinds k o) (hb : 1 <= b) (hob : o <= b) (hw : 0 <= w) (hv : 1 <= v) (hd : rdSBody s a b v k o = some d) :
  (kdA ⟨k, o, w, d.p, d.h, d.C, d.R⟩ ∨ kdF ⟨k, o, w, d.p, d.h, d.C, d.R⟩ b ∨ kdL ⟨k, o, w, d.p, d.h, d.C, d.R⟩ b) /\ (d.m.length : Int) = b /\ (k = 0 -> ∀ x ∈ d.m, x = d.m.getD 0 0) /\ (k = 2 ∨ k = 3 -> encR d.R d.m.length o (resN ⟨k, o, w, d.p, d.h, d.C, d.R⟩ d.m) = true) /\ ahead s a = bodyB ⟨k, o, w, d.p, d.h, d.C, d.R⟩ (v + w) d.m ++ ahead s d.a /\ d.a = a + (bodyB ⟨k, o, w, d.p, d.h, d.C, d.R⟩ (v + w) d.m).length := by
 have hvw : v + w - w = v := by omega
 unfold rdSBody at hd
 unfold bodyB
 simp only [hvw]
 by_cases k0 : k = 0
 ·subst k0
  rw [if_pos rfl] at hd ⊢
  split at hd
  ·rename_i g
   obtain ⟨_, p2, p3⟩ := sig_again s a v g
   cases hd
   have ho : o = 0 := by unfold kinds at hk; omega
   have hg : (List.replicate b.toNat (sgnV s a v)).getD 0 0 = sgnV s a v := by
    rw [List.getD_eq_getElem?_getD, List.getElem?_replicate, if_pos (by omega)]; rfl
   refine ⟨Or.inl ⟨Or.inl rfl, ⟨rfl, rfl, rfl⟩, ho, rfl⟩, by rw [List.length_replicate]; omega, fun _ x hx => ?_, fun h => by omega, ?_, ?_⟩
   ·rw [hg]; exact (List.mem_replicate.1 hx).2
   ·show ahead s a = sigB ((List.replicate b.toNat (sgnV s a v)).getD 0 0) v ++ ahead s (sgnA s a v)
    rw [hg]; exact p2
   ·show sgnA s a v = a + (sigB ((List.replicate b.toNat (sgnV s a v)).getD 0 0) v).length
    rw [hg]; exact p3
  ·cases hd
 ·rw [if_neg k0] at hd ⊢
  by_cases k1 : k = 1
  ·subst k1
   rw [if_pos rfl] at hd ⊢
   cases hr : rdAll s 0 v b.toNat a with
   | none => rw [hr] at hd; cases hd
   | some q =>
    obtain ⟨m, a1⟩ := q
    rw [hr] at hd
    cases hd
    obtain ⟨_, p2, p3⟩ := nums_again hr
    have hl := rdAll_len hr
    have ho : o = 0 := by unfold kinds at hk; omega
    exact ⟨Or.inl ⟨Or.inr rfl, ⟨rfl, rfl, rfl⟩, ho, rfl⟩, by show (m.length : Int) = b; omega, fun h => absurd h k0, fun h => by omega, p2, p3⟩
  ·rw [if_neg k1] at hd ⊢
   cases hr : rdAll s 0 v o.toNat a with
   | none => rw [hr] at hd; cases hd
   | some q =>
    obtain ⟨W, a1⟩ := q
    rw [hr] at hd
    simp only at hd
    obtain ⟨_, p2, p3⟩ := nums_again hr
    have hl := rdAll_len hr
    by_cases k2 : k = 2
    ·subst k2
     rw [if_pos rfl] at hd ⊢
     have ho4 : 0 <= o /\ o <= 4 := by unfold kinds at hk; omega
     have hwF := wF_len o.toNat (by omega)
     obtain ⟨r1, r2, r3, r4, r5, _, r7, r8, r9⟩ := res_again (by omega) (by omega) hd
     have hml : d.m.length = b.toNat := by omega
     have hres : resN ⟨2, o, w, d.p, d.h, d.C, d.R⟩ d.m = leftN (wF o.toNat) (0 : Int).toNat d.m (d.m.length - o.toNat) := by unfold resN; rw [if_pos rfl]; rfl
     refine ⟨Or.inr (Or.inl ⟨rfl, ⟨r1, r2, r3⟩, ho4.1, ho4.2, hob, encR_chk r7⟩), r4, fun h => absurd h k0, fun _ => ?_, ?_, ?_⟩
     ·rw [hres, r4]; exact r7
     ·rw [hres, r5, hml, List.append_assoc]
      rw [hml] at r8
      rw [<- r8, <- p2]
     ·rw [hres, r5, hml, List.length_append]
      rw [hml] at r9
      omega
    ·rw [if_neg k2] at hd ⊢
     have ho3 : k = 3 /\ 1 <= o /\ o <= 32 := by unfold kinds at hk; omega
     obtain ⟨rfl, ho1, ho32⟩ := ho3
     unfold rdLpc at hd
     split at hd
     ·rename_i g
      obtain ⟨g1, g2, g3, g4⟩ := g
      obtain ⟨_, u2, u3⟩ := get_again s a1 4 g1
      obtain ⟨_, w2, w3⟩ := get_again s (getA s a1 4) 5 g3
      have v4 := getV_4 s a1
      have v5 := getV_5 s (getA s a1 4)
      cases hc : rdAll s 0 (getV s a1 4 + 1) o.toNat (getA s (getA s a1 4) 5) with
      | none => rw [hc] at hd; cases hd
      | some q2 =>
       obtain ⟨C, a4⟩ := q2
       rw [hc] at hd
       simp only at hd
       obtain ⟨c1, c2, c3⟩ := nums_again hc
       have hcl := rdAll_len hc
       obtain ⟨r1, r2, r3, r4, r5, _, r7, r8, r9⟩ := res_again (by omega) (by omega) hd
       have hml : d.m.length = b.toNat := by omega
       have hres : resN ⟨3, o, w, d.p, d.h, d.C, d.R⟩ d.m = leftN C (getV s (getA s a1 4) 5).toNat d.m (d.m.length - o.toNat) := by
        unfold resN; rw [if_neg (show ¬ (3 : Int) = 2 by decide)]
        show leftN d.C d.h.toNat d.m (d.m.length - o.toNat) = _
        rw [r3, r2]
       refine ⟨Or.inr (Or.inr ⟨rfl, ho1, ho32, hob, ?_, ?_, ?_, ?_, ?_, ?_, encR_chk r7⟩), r4, fun h => absurd h k0, fun _ => ?_, ?_, ?_⟩
       ·show 1 <= d.p; rw [r1]; omega
       ·show d.p <= 15; rw [r1]; omega
       ·show 0 <= d.h; rw [r2]; omega
       ·show d.h <= 15; rw [r2]; omega
       ·show (d.C.length : Int) = o; rw [r3]; omega
       ·show ∀ x ∈ d.C, sigE x d.p = 0
        rw [r3, r1]
        exact fun x hx => (fit0 _ x (by omega) (by omega)).1 (c1 x hx)
       ·rw [hres, r4]; exact r7
       ·rw [hres, r5, hml, r1, r2, r3, show getV s a1 4 + 1 - 1 = getV s a1 4 by omega]
        simp only [List.append_assoc]
        rw [hml] at r8
        rw [<- r8, <- c2, <- w2, <- u2, <- p2]
       ·rw [hres, r5, hml, r1, r2, r3, show getV s a1 4 + 1 - 1 = getV s a1 4 by omega]
        simp only [List.length_append]
        rw [hml] at r9
        omega
     ·cases hd
theorem sub_again {s : ByteArray} {a : Nat} {b v : Int} {l : List Int} {q : Sb} {a1 : Nat} (hb : 1 <= b /\ b <= 65535) (hv : 1 <= v /\ v <= 33) (h : decS s a b v = some (l, q, a1)) :
  subOk q b v /\ (l.length : Int) = b /\ goesOk q v l /\ ahead s a = subB q v l ++ ahead s a1 /\ a1 = a + (subB q v l).length := by
 unfold decS at h
 cases hh : rdSHead s a b v with
 | none => rw [hh] at h; cases h
 | some t =>
  obtain ⟨k, o, w, a0⟩ := t
  rw [hh] at h
  simp only at h
  obtain ⟨hk, hob, hw, e1, e2⟩ := head10_again hv.1 hh
  cases hd : rdSBody s a0 b (v - w) k o with
  | none => rw [hd] at h; cases h
  | some d =>
   rw [hd] at h
   simp only at h
   split at h
   ·rename_i hall
    simp only [Option.some.injEq, Prod.mk.injEq] at h
    obtain ⟨rfl, rfl, rfl⟩ := h
    obtain ⟨b1, b2, b3, b4, b5, b6⟩ := body_again (w := w) hk hb.1 hob hw.1 (by omega) hd
    rw [show v - w + w = v by omega] at b5 b6
    obtain ⟨v', rfl⟩ : ∃ v' : Nat, v = v' := ⟨v.toNat, by omega⟩
    obtain ⟨w', rfl⟩ : ∃ w' : Nat, w = w' := ⟨w.toNat, by omega⟩
    have hfit : ∀ x ∈ d.m, sigE x ((v' - w' : Nat) : Int) = 0 := fun x hx => by
     have := (allT_iff _ _ _).1 hall x hx
     rw [show (v' : Int) - (w' : Int) = ((v' - w' : Nat) : Int) by omega] at this
     exact (fit0 _ x (by omega) (by omega)).1 this
    obtain ⟨f1, f2, f3⟩ := shl_fit d.m v' w' (by omega) (by omega) hfit
    rw [Int.toNat_natCast]
    refine ⟨⟨hb, hv, hw, b1⟩, by rw [shl_len]; exact b2, ⟨f1, ?_, ?_, ?_⟩, ?_, ?_⟩
    ·show dvB (shlL d.m w') ((w' : Int).toNat) = true
     rw [Int.toNat_natCast]; exact f2
    ·intro hk0 x hx
     have hk0' : k = 0 := hk0
     obtain ⟨y, hy, rfl⟩ := List.mem_map.1 hx
     have h1 := b3 hk0' y hy
     have hpos : 0 < d.m.length := List.length_pos_of_mem hy
     have e : (shlL d.m w').getD 0 0 = wrap64 (d.m.getD 0 0 * 2 ^ w') := by
      unfold shlL
      rw [List.getD_eq_getElem?_getD, List.getD_eq_getElem?_getD, List.getElem?_map, List.getElem?_eq_getElem hpos]; rfl
     rw [e, <- h1]
    ·intro hk2
     show encR d.R (shlL d.m w').length o (resN _ (shrL (shlL d.m w') ((w' : Int).toNat))) = true
     rw [Int.toNat_natCast, f3, shl_len]
     exact b4 hk2
    ·unfold subB
     show ahead s a = putB (typN _) 7 ++ (wstB (w' : Int) ++ bodyB _ v' (shrL (shlL d.m w') ((w' : Int).toNat))) ++ ahead s d.a
     rw [Int.toNat_natCast, f3, typN_is]
     simp only [List.append_assoc]
     rw [<- b5]
     exact e1
    ·unfold subB
     show d.a = a + (putB (typN _) 7 ++ (wstB (w' : Int) ++ bodyB _ v' (shrL (shlL d.m w') ((w' : Int).toNat)))).length
     rw [Int.toNat_natCast, f3, typN_is]
     simp only [List.length_append]
     show d.a = a + ((putB (typK k o) 7).length + _)
     omega
   ·cases h
theorem enc_back_at (s : ByteArray) (a : Nat) (c : Rc) (b o r : Nat) (hk : Rok c b o r) (l : List Int) (hlen : l.length = b - r) (hfit : allFit c b o r l (2 ^ o)) (R : List Nat) (h : ahead s a = encB c b r l ++ R) (hl : a + (encB c b r l).length <= 8 * s.size) :
  decP s a b r = some (c, l, a + (encB c b r l).length) := by
 have hot : c.o.toNat = o := by have := hk.ho; omega
 have he : encB c b r l = putB c.m 2 ++ putB c.o 4 ++ partsB c b o r l (2 ^ o) := by unfold encB; rw [hot]
 have hm0 := hk.m0
 have hm1 := hk.m1
 have ho15 := hk.cut.o15
 have hho := hk.ho
 have hL := congrArg List.length he
 simp only [List.length_append] at hL
 have a1 := h
 rw [he] at a1
 simp only [List.append_assoc] at a1
 have hp2 : (2 : Int) ^ (2 : Int).toNat = 4 := rfl
 have hp4 : (2 : Int) ^ (4 : Int).toNat = 16 := rfl
 obtain ⟨g1, g2, g3⟩ := get_back s a c.m 2 hm0 _ a1 (by omega) (putE_of c.m 2 (by omega) (by omega) (by rw [hp2]; omega))
 have a2 := ahead_next a1
 obtain ⟨k1, k2, k3⟩ := get_back s (a + (putB c.m 2).length) c.o 4 (by omega) _ a2 (by omega) (putE_of c.o 4 (by omega) (by omega) (by rw [hp4]; omega))
 have a3 := ahead_next a2
 have ht : rdTop s a b r = some (c.m, c.o, a + (putB c.m 2).length + (putB c.o 4).length) := by
  unfold rdTop
  rw [g2, g3, k2, k3, if_pos ⟨g1, hm1⟩, if_pos ⟨k1, by rw [hho]; exact hk.cut.ok⟩]
 have hpb := parts_back s _ c b o r hk l hlen hfit R a3 (by omega) (2 ^ o) (Nat.le_refl _)
 unfold decP
 rw [ht]
 simp only [Int.toNat_natCast, hot]
 rw [hpb]
 simp only
 have e1 : l.take (frN b o r (2 ^ o)) = l := List.take_of_length_le (by rw [hk.cut.total]; omega)
 have e2 : c.P.take (2 ^ o) = c.P := List.take_of_length_le (by rw [hk.lP]; omega)
 have e3 : c.E.take (2 ^ o) = c.E := List.take_of_length_le (by rw [hk.lE]; omega)
 rw [e1, e2, e3, hL]
 congr 3
 omega
theorem encR_back (s : ByteArray) (a : Nat) (c : Rc) (b r : Int) (l : List Int) (hR : encR c b r l = true) (R : List Nat) (h : ahead s a = encB c b.toNat r.toNat l ++ R) (hl : a + (encB c b.toNat r.toNat l).length <= 8 * s.size) :
  decP s a b r = some (c, l, a + (encB c b.toNat r.toNat l).length) := by
 obtain ⟨b', o', r', rfl, rfl, hk, hf⟩ := encR_yes hR
 obtain ⟨h1, h2⟩ := (fitB_iff c b' o' r' l).1 hf
 exact enc_back_at s a c b' o' r' hk l h1 h2 R h hl
theorem res_back (s : ByteArray) (a : Nat) (b o p h : Int) (C D m : List Int) (c : Rc) (ho : 0 <= o) (hD : (D.length : Int) = o) (hob : D.length <= m.length) (hm : Rng m) (hR : encR c b o (leftN D h.toNat m (m.length - o.toNat)) = true) (R : List Nat) (ha : ahead s a = encB c b.toNat o.toNat (leftN D h.toNat m (m.length - o.toNat)) ++ R) (hl : a + (encB c b.toNat o.toNat (leftN D h.toNat m (m.length - o.toNat))).length <= 8 * s.size) :
  rdRes s a b o p h C D (m.take o.toNat) = some ⟨m, p, h, C, c, a + (encB c b.toNat o.toNat (leftN D h.toNat m (m.length - o.toNat))).length⟩ := by
 unfold rdRes
 rw [encR_back s a c b o _ hR R ha hl]
 simp only
 have e : o.toNat = D.length := by omega
 rw [e, leftN_len, back9 D h.toNat m hob hm]
theorem pow7 : (2 : Int) ^ (7 : Int).toNat = 128 := rfl
theorem rdW_back (s : ByteArray) (a : Nat) (w v : Int) (h0 : 0 <= w) (hwv : w < v) (hv : v <= 33) (R : List Nat) (h : ahead s a = wstB w ++ R) (hl : a + (wstB w).length <= 8 * s.size) : rdW s a v = some (w, a + (wstB w).length) := by
 unfold wstB at h hl ⊢
 unfold rdW
 by_cases hw : 0 < w
 ·rw [if_pos hw] at h hl ⊢
  rw [List.append_assoc] at h
  rw [List.length_append] at hl ⊢
  obtain ⟨g1, g2, g3⟩ := get_back s a 1 1 (by decide) _ h (by omega) (putE_of 1 1 (by decide) (by decide) (by decide))
  have h2 := ahead_next h
  obtain ⟨u1, u2, u3⟩ := unr_back s (a + (putB 1 1).length) (w - 1) R h2 (by omega) (by unfold unrE; rw [if_pos (by omega)])
  rw [if_pos g1, if_pos g2, g3, u2, u3, if_pos ⟨u1, by omega⟩, show w - 1 + 1 = w by omega, Nat.add_assoc]
 ·rw [if_neg hw] at h hl ⊢
  obtain ⟨g1, g2, g3⟩ := get_back s a 0 1 (by decide) _ h (by omega) (putE_of 0 1 (by decide) (by decide) (by decide))
  rw [if_pos g1, g2, if_neg (by decide), g3, show w = 0 by omega]
theorem head10_back (s : ByteArray) (a : Nat) (b v k o w : Int) (hk : kinds k o) (hob : o <= b) (h0 : 0 <= w) (hwv : w < v) (hv : v <= 33) (R : List Nat) (h : ahead s a = putB (typK k o) 7 ++ (wstB w ++ R)) (hl : a + (putB (typK k o) 7).length + (wstB w).length <= 8 * s.size) :
  rdSHead s a b v = some (k, o, w, a + (putB (typK k o) 7).length + (wstB w).length) := by
 obtain ⟨t1, t2, t3⟩ := kindN_typ hk
 obtain ⟨g1, g2, g3⟩ := get_back s a (typK k o) 7 t2 _ h (by omega) (putE_of _ 7 (by decide) (by decide) (by rw [pow7]; omega))
 have h2 := ahead_next h
 unfold rdSHead
 rw [if_pos g1, g2, t1]
 simp only
 rw [g3, rdW_back s _ w v h0 hwv hv R h2 (by omega)]
 simp only
 rw [if_pos hob]
theorem nums_whole (s : ByteArray) (a : Nat) (k e : Int) (X : List Int) (R : List Nat) (h : ahead s a = numsB k e X ++ R) (hl : a + (numsB k e X).length <= 8 * s.size) (hf : ∀ x ∈ X, fitE k e x) (n : Nat) (hn : n = X.length) : rdAll s k e n a = some (X, a + (numsB k e X).length) := by
 have := nums_back s a k e X R h hl hf n (by omega)
 rw [hn, List.take_length] at this
 rw [hn]; exact this
theorem kd_kinds {s : Sb} {b : Int} (h : kdA s ∨ kdF s b ∨ kdL s b) : kinds s.k s.o := by
 unfold kinds
 rcases h with h | h | h
 ·obtain ⟨h1, _, h3, _⟩ := h; omega
 ·obtain ⟨h1, _, h3, h4, _⟩ := h; omega
 ·obtain ⟨h1, h2, h3, _⟩ := h; omega
theorem kd_ob {s : Sb} {b : Int} (hb : 1 <= b) (h : kdA s ∨ kdF s b ∨ kdL s b) : s.o <= b := by
 rcases h with h | h | h
 ·obtain ⟨_, _, h3, _⟩ := h; omega
 ·obtain ⟨_, _, _, _, h5, _⟩ := h; exact h5
 ·obtain ⟨_, _, _, h4, _⟩ := h; exact h4
theorem body_back (s : ByteArray) (a : Nat) (q : Sb) (b v : Int) (m : List Int) (hb : 1 <= b) (hml : (m.length : Int) = b) (hkd : kdA q ∨ kdF q b ∨ kdL q b) (hv : 1 <= v - q.w) (hfit : ∀ x ∈ m, sigE x (v - q.w) = 0) (hsame : q.k = 0 -> ∀ x ∈ m, x = m.getD 0 0) (hR : q.k = 2 ∨ q.k = 3 -> encR q.R b q.o (resN q m) = true) (R : List Nat) (h : ahead s a = bodyB q v m ++ R) (hl : a + (bodyB q v m).length <= 8 * s.size) :
  rdSBody s a b (v - q.w) q.k q.o = some ⟨m, q.p, q.h, q.C, q.R, a + (bodyB q v m).length⟩ := by
 have hrng := fit_rng m (v - q.w) hfit
 have hml2 : m.length = b.toNat := by omega
 have hfe : ∀ x ∈ m, fitE 0 (v - q.w) x := fun x hx => (fit0 _ x (by omega) (by omega)).2 (hfit x hx)
 unfold bodyB at h hl ⊢
 unfold rdSBody
 rcases hkd with hA | hF | hL
 ·obtain ⟨hk, ⟨p0, h0, c0⟩, o0, r0⟩ := hA
  rcases hk with hk | hk
  ·rw [if_pos hk] at h hl ⊢
   rw [if_pos hk]
   have hx : m.getD 0 0 ∈ m := getD_mem m 0 (by omega)
   obtain ⟨g1, g2, g3⟩ := sig_back s a (m.getD 0 0) (v - q.w) R h hl (hfit _ hx)
   have hm : List.replicate b.toNat (m.getD 0 0) = m := by
    apply List.ext_getElem?
    intro j
    by_cases hj : j < m.length
    ·rw [List.getElem?_replicate, if_pos (by omega), List.getElem?_eq_getElem hj]
     exact congrArg some (hsame hk _ (List.getElem_mem hj)).symm
    ·rw [List.getElem?_eq_none (by rw [List.length_replicate]; omega), List.getElem?_eq_none (by omega)]
   rw [if_pos g1, g2, g3, hm, p0, h0, c0, r0]
  ·rw [if_neg (by omega), if_pos hk] at h hl ⊢
   rw [if_neg (by omega), if_pos hk, nums_whole s a 0 _ m R h hl hfe b.toNat (by omega), p0, h0, c0, r0]
 focus
  obtain ⟨hk, ⟨p0, h0, c0⟩, o0, o4, ob, _⟩ := hF
  rw [if_neg (by omega), if_neg (by omega), if_pos hk] at h hl ⊢
  rw [if_neg (by omega), if_neg (by omega)]
  rw [List.append_assoc] at h
  rw [List.length_append] at hl ⊢
 rotate_left
 focus
  obtain ⟨hk, o1, o32, ob, p1, p15, h0, h15, cl, cf, _⟩ := hL
  rw [if_neg (by omega), if_neg (by omega), if_neg (by omega)] at h hl ⊢
  rw [if_neg (by omega), if_neg (by omega)]
  simp only [List.append_assoc] at h
  simp only [List.length_append] at hl ⊢
 rotate_left
 all_goals
  rw [nums_whole s a 0 _ (m.take q.o.toNat) _ h (by omega) (fun x hx => hfe x (List.mem_of_mem_take hx)) q.o.toNat (by rw [List.length_take]; omega)]
  simp only
 ·rw [if_pos hk]
  have hres : resN q m = leftN (wF q.o.toNat) (0 : Int).toNat m (m.length - q.o.toNat) := by unfold resN; rw [if_pos hk]; rfl
  have hwF := wF_len q.o.toNat (by omega)
  have h2 := ahead_next h
  have hRR := hR (Or.inl hk)
  rw [hres] at h2 hl hRR ⊢
  rw [hml2] at h2 hl ⊢
  rw [hml2] at hRR
  have hb2 := res_back s _ b q.o 0 0 [] (wF q.o.toNat) m q.R o0 (by omega) (by omega) hrng (by rw [hml2]; exact hRR) R (by rw [hml2]; exact h2) (by rw [hml2]; omega)
  rw [hb2, p0, h0, c0, hml2, Nat.add_assoc]
 ·rw [if_neg (by omega)]
  have h2 := ahead_next h
  have hp4 : (2 : Int) ^ (4 : Int).toNat = 16 := rfl
  have hp5 : (2 : Int) ^ (5 : Int).toNat = 32 := rfl
  obtain ⟨g1, g2, g3⟩ := get_back s _ (q.p - 1) 4 (by omega) _ h2 (by omega) (putE_of _ 4 (by decide) (by decide) (by rw [hp4]; omega))
  have h3 := ahead_next h2
  obtain ⟨k1, k2, k3⟩ := get_back s _ q.h 5 h0 _ h3 (by omega) (putE_of _ 5 (by decide) (by decide) (by rw [hp5]; omega))
  have h4 := ahead_next h3
  have hc := nums_whole s _ 0 q.p q.C _ h4 (by omega) (fun x hx => (fit0 _ x (by omega) (by omega)).2 (cf x hx)) q.o.toNat (by omega)
  have h5 := ahead_next h4
  unfold rdLpc
  rw [g2, g3, k2, k3, if_pos ⟨g1, by omega, k1, h15⟩, show q.p - 1 + 1 = q.p by omega, hc]
  simp only
  have hres : resN q m = leftN q.C q.h.toNat m (m.length - q.o.toNat) := by unfold resN; rw [if_neg (by omega)]
  have hRR := hR (Or.inr hk)
  rw [hres] at h5 hl hRR ⊢
  rw [hml2] at h5 hl ⊢
  rw [hml2] at hRR
  have hb2 := res_back s _ b q.o q.p q.h q.C q.C m q.R (by omega) cl (by omega) hrng (by rw [hml2]; exact hRR) R (by rw [hml2]; exact h5) (by rw [hml2]; omega)
  rw [hb2, hml2]
  simp only [Nat.add_assoc]
theorem sub_back (s : ByteArray) (a : Nat) (q : Sb) (b v : Int) (l : List Int) (hok : subOk q b v) (hll : (l.length : Int) = b) (hg : goesOk q v l) (R : List Nat) (h : ahead s a = subB q v l ++ R) (hl : a + (subB q v l).length <= 8 * s.size) :
  decS s a b v = some (l, q, a + (subB q v l).length) := by
 obtain ⟨hb, hv, hw, hkd⟩ := hok
 obtain ⟨hf, hd, hs, hr⟩ := hg
 have hrl := fit_rng l v hf
 unfold subB at h hl ⊢
 rw [typN_is] at h hl ⊢
 simp only [List.append_assoc] at h
 simp only [List.length_append] at hl ⊢
 have hh := head10_back s a b v q.k q.o q.w (kd_kinds hkd) (kd_ob hb.1 hkd) hw.1 hw.2 hv.2 _ h (by omega)
 have h2 := ahead_next (ahead_next h)
 have hml : ((shrL l q.w.toNat).length : Int) = b := by rw [shr_len]; exact hll
 have hfm : ∀ x ∈ shrL l q.w.toNat, sigE x (v - q.w) = 0 := fun x hx => by
  have := shr_fit l v.toNat q.w.toNat (by omega) (fun y hy => by rw [Int.toNat_of_nonneg (by omega)]; exact hf y hy) hd x hx
  rw [show ((v.toNat - q.w.toNat : Nat) : Int) = v - q.w by omega] at this
  exact this
 have hsm : q.k = 0 -> ∀ x ∈ shrL l q.w.toNat, x = (shrL l q.w.toNat).getD 0 0 := fun hk x hx => by
  obtain ⟨y, hy, rfl⟩ := List.mem_map.1 hx
  have hpos : 0 < l.length := List.length_pos_of_mem hy
  have e : (shrL l q.w.toNat).getD 0 0 = l.getD 0 0 / 2 ^ q.w.toNat := by
   unfold shrL
   rw [List.getD_eq_getElem?_getD, List.getD_eq_getElem?_getD, List.getElem?_map, List.getElem?_eq_getElem hpos]; rfl
  rw [e, <- hs hk y hy]
 have hbk := body_back s _ q b v (shrL l q.w.toNat) hb.1 hml hkd (by omega) hfm hsm (fun hk => by rw [<- hll]; exact hr hk) R h2 (by omega)
 unfold decS
 rw [hh]
 simp only
 rw [hbk]
 simp only
 have hall : allT 0 (v - q.w) (shrL l q.w.toNat) = true := allT_yes (fun x hx => (fit0 _ x (by omega) (by omega)).2 (hfm x hx))
 rw [if_pos hall, shl_shr l q.w.toNat hrl hd]
 simp only [Nat.add_assoc]
theorem numsB_fit_len (v : Int) (m : List Int) (hv : v <= 64) (hv1 : 1 <= v) : (numsB 0 v m).length <= 64 * m.length := by
 induction m with
 | nil => simp [numsB]
 | cons x t ih =>
  have e : numsB 0 v (x :: t) = oneB 0 v x ++ numsB 0 v t := by simp [numsB]
  have h1 : (oneB 0 v x).length <= 64 := by
   unfold oneB sigB
   rw [if_neg (by omega), if_neg (by omega)]
   split
   ·rw [bitsOf_length]; omega
   ·simp
  rw [e, List.length_append, List.length_cons]; omega
end Go.Proofs.YtfpfabmbipmipaaGreatDoor
