/- Own text. -/
import Derived.Test.YtfpfabmbipmipaaGreatDoorD30
set_option linter.unusedSimpArgs false
set_option linter.unusedVariables false
set_option maxRecDepth 20000
set_option maxHeartbeats 12800000
namespace Go.Proofs.YtfpfabmbipmipaaGreatDoor
open Go.RowKit
theorem RowsAt.at {w : World} {ao : OA} {xs : List (List Int)} (h : RowsAt w ao xs) (i : Nat) (hi : i < xs.length) : ∃ b off, ao = some ⟨b, off, none⟩ /\ ∃ a c, (∀ wx, Lo w wx -> wx.cell? ⟨b, off + i, none⟩ = some (.slice a (xs.getD i []).length c)) /\ (xs.getD i []).length <= c /\ (a = none -> c = 0) /\ IntsAt w a (xs.getD i []) := by
 obtain ⟨b, off, e, hc⟩ := h.lies (by omega)
 obtain ⟨a, c, h1, h2, h3, h4⟩ := hc i hi
 exact ⟨b, off, e, a, c, fun wx hb => by rw [World.cell?_of_block (w := w) (hb.block _ (lt_cell h1))]; exact h1, h2, h3, h4⟩
theorem all_of_getD {P : List (List Int)} {Q : List Int -> Prop} (h : ∀ j, j < P.length -> Q (P.getD j [])) : ∀ l ∈ P, Q l := fun l hl => by
 obtain ⟨j, hj, rfl⟩ := mem_getD' P l hl
 exact h j hj
theorem f_long (P : List (List Int)) (po : OA) (pk : Nat) (size : Int) (bb : Bool) (hbb : bb = true ↔ ∀ l ∈ P, (l.length : Int) = size) (w : World) (hp : RowsAt w po P) : Calls Tryz.prog 17 #[.slice po P.length pk, .int .i64 size] w fun en w' => en = .returned (.bool bb) /\ w' = w := by
 have hlen := hp.len
 have HP := kQ hp
 have HBB := kQ hbb
 clear hp hbb
 go_enter Tryz.func17, Tryz.ntmps17
 go_wp2_with fail
 go_loopw [6, 9] (fun s6 s9 wr => ∃ n : Nat, n <= P.length /\ s9 = .int .i64 (n : Int) /\ (∀ j, j < n -> ((P.getD j []).length : Int) = size) /\ wr = w) (fun _ s9 _ => P.length - (intOf s9).toNat)
 case atStart => exact ⟨0, Nat.zero_le _, rfl, fun j hj => absurd hj (Nat.not_lt_zero _), rfl⟩
 case round =>
  obtain ⟨n, hn, rfl, hok, rfl⟩ := hrel;have HOK := kQ hok;clear hok;by_cases hlt : n < P.length
  ·obtain ⟨b, off, rfl, la, lc, q1, q2, q3, q4⟩ := HP.out.at n hlt
   have r1 := q1 wr (Below.refl _ _);have hl5 := q4.len;have HE : Hid (∀ j, j = n -> (P.getD j []).length = (P.getD n []).length) := fun j hj => by rw [hj]
   have HM : Hid (P.getD n [] ∈ P) := getD_mem' P n hlt;clear q1 q2 q3 q4;generalize P.getD n [] = l at *;by_cases hs : (l.length : Int) = size
   ·have hbe : ((l.length : Int) != size) = false := by rw [bne_eq_false_iff_eq]; exact hs
    have HS := kQ hs;clear hs HM
    go_wp2_with fail
    go_roundw
    case rel =>
     refine ⟨n + 1, by omega, by go_num, fun j hj => ?_, trivial⟩
     by_cases ej : j = n
     ·rw [HE.out j ej]; exact HS.out
     ·exact HOK.out j (by omega)
    case measure => simp [intOf]; omega
   ·have hbe : ((l.length : Int) != size) = true := by rw [bne_iff_ne]; exact hs
    have HF : Hid (bb = false) := bb_no HBB.out (fun h => hs (h l HM.out));clear hs HM HE
    go_wp2_with fail
    go_ret;exact ⟨by rw [HF.out]; rfl, rfl⟩
  ·have HF : Hid (bb = true) := bb_yes HBB.out (all_of_getD (fun j hj => HOK.out j (by omega)))
   go_wp2_with fail
   go_ret;exact ⟨by rw [HF.out]; rfl, rfl⟩
theorem f_within (P : List (List Int)) (po : OA) (pk : Nat) (k : Nat) (hk : k <= 63) (bb : Bool) (hbb : bb = true ↔ ∀ l ∈ P, ∀ x ∈ l, sigE x ((k : Int) + 1) = 0) (w : World) (hp : RowsAt w po P) : Calls Tryz.prog 18 #[.slice po P.length pk, .int .i64 ((k : Int) + 1)] w fun en w' => en = .returned (.bool bb) /\ w' = w := by
 have hlen := hp.len
 have HP := kQ hp
 have HBB := kQ hbb
 clear hp hbb
 go_enter Tryz.func18, Tryz.ntmps18
 go_wp2_with fail
 go_loopw [6, 8, 9, 12] (fun s6 s8 s9 s12 wr => ∃ n : Nat, n <= P.length /\ s12 = .int .i64 (n : Int) /\ (∀ j, j < n -> ∀ x ∈ P.getD j [], sigE x ((k : Int) + 1) = 0) /\ wr = w) (fun _ _ _ s12 _ => P.length - (intOf s12).toNat)
 case atStart => exact ⟨0, Nat.zero_le _, rfl, fun j hj => absurd hj (Nat.not_lt_zero _), rfl⟩
 case round =>
  obtain ⟨n, hn, rfl, hok, rfl⟩ := hrel;have HOK := kQ hok;clear hok;by_cases hlt : n < P.length
  ·obtain ⟨b, off, rfl, la, lc, q1, q2, q3, q4⟩ := HP.out.at n hlt
   have r1 := q1 wr (Below.refl _ _);have hl5 := q4.len;have HE : Hid (∀ j, j = n -> P.getD j [] = P.getD n []) := fun j hj => by rw [hj]
   have HM : Hid (P.getD n [] ∈ P) := getD_mem' P n hlt;have HL := kQ q4;clear q1 q2 q3 q4;generalize P.getD n [] = l at *
   go_wp2_with fail
   clear r1
   go_loopw [8, 9, 18] (fun s8 s9 t wr2 => ∃ m : Nat, m <= l.length /\ t = .int .i64 (m : Int) /\ (∀ j, j < m -> sigE (l.getD j 0) ((k : Int) + 1) = 0) /\ wr2 = wr) (fun _ _ t _ => l.length - (intOf t).toNat)
   case atStart => exact ⟨0, Nat.zero_le _, rfl, fun j hj => absurd hj (Nat.not_lt_zero _), rfl⟩
   case round =>
    obtain ⟨m, hm, rfl, hs, rfl⟩ := hrel;have HS := kQ hs;clear hs;by_cases hlt2 : m < l.length
    focus
     obtain ⟨b1, o1, rfl, q1⟩ := HL.out.at m hlt2;have r1 := q1 _ (Below.refl _ _);have hsg := sigE_sign (l.getD m 0) k hk;have hrg := HL.out.rng m
     have HMM : Hid (l.getD m 0 ∈ l) := by
      show _ ∈ _;rw [List.getD_eq_getElem?_getD, List.getElem?_eq_getElem hlt2]; exact List.getElem_mem hlt2
     have hdr : -9223372036854775808 <= l.getD m 0 / 2 ^ k /\ l.getD m 0 / 2 ^ k <= 9223372036854775807 := div_rng _ k hrg;have HSG := kQ hsg;have HE2 : Hid (∀ j, j = m -> l.getD j 0 = l.getD m 0) := fun j hj => by rw [hj]
     clear q1 hsg;generalize l.getD m 0 = x at *;by_cases c0 : x / 2 ^ k = 0
     focus
      have hb0 : (x / 2 ^ k != 0) = false := by rw [bne_eq_false_iff_eq]; exact c0
      have HX := kQ (HSG.out.2 (.inl c0));clear HSG c0 HMM
     rotate_left
     focus
      by_cases c1 : x / 2 ^ k = -1
      focus
       have hb0 : (x / 2 ^ k != 0) = true := by rw [bne_iff_ne]; exact c0
       have hb1 : (x / 2 ^ k != -1) = false := by rw [bne_eq_false_iff_eq]; exact c1
       have HX := kQ (HSG.out.2 (.inr c1));clear HSG c0 c1 HMM
      rotate_left
      ·have hb0 : (x / 2 ^ k != 0) = true := by rw [bne_iff_ne]; exact c0
       have hb1 : (x / 2 ^ k != -1) = true := by rw [bne_iff_ne]; exact c1
       have HF : Hid (bb = false) := bb_no HBB.out (fun h => by
        have := HSG.out.1 (h l HM.out x HMM.out)
        omega)
       clear HSG c0 c1 HMM
       go_wp2_with fail
       go_ret;exact ⟨by rw [HF.out]; rfl, rfl⟩
     rotate_left
    rotate_left 2
    ·have HALL : Hid (∀ x ∈ l, sigE x ((k : Int) + 1) = 0) := fun x hx => by
      obtain ⟨j, hj, rfl⟩ := List.mem_iff_getElem.1 hx;have := HS.out j (by omega)
      rw [List.getD_eq_getElem?_getD, List.getElem?_eq_getElem hj] at this;exact this
     clear HS
     go_wp2_with fail
     go_roundw
     case rel =>
      refine ⟨n + 1, by omega, by go_num, fun j hj => ?_, trivial⟩
      by_cases ej : j = n
      ·rw [HE.out j ej]; exact HALL.out
      ·exact HOK.out j (by omega)
     case measure => simp [intOf]; omega
    all_goals
     go_wp2_with fail
     go_roundw
     case rel =>
      refine ⟨m + 1, by omega, by go_num, fun j hj => ?_, trivial⟩
      by_cases ej : j = m
      ·rw [HE2.out j ej]; exact HX.out
      ·exact HS.out j (by omega)
     case measure => simp [intOf]; omega
  ·have HF : Hid (bb = true) := bb_yes HBB.out (all_of_getD (Q := fun l => ∀ x ∈ l, sigE x ((k : Int) + 1) = 0) (fun j hj => HOK.out j (by omega)))
   go_wp2_with fail
   go_ret;exact ⟨by rw [HF.out]; rfl, rfl⟩
theorem chnL_len (mo : Int) (P : List (List Int)) (ch : Int) (hP : (P.length : Int) = ch) (h : mo = 0 ∨ ch = 2) : ((chnL mo P).length : Int) = ch := by
 unfold chnL
 by_cases c : mo = 0
 ·rw [if_pos c]; exact hP
 ·rw [if_neg c]
  rcases h with h | h
  ·exact absurd h c
  ·rw [h]; rfl
theorem chnL_size (mo : Int) (P : List (List Int)) (size : Int) (hl : ∀ l ∈ P, (l.length : Int) = size) (h0 : 0 < P.length) : ∀ c, c < (chnL mo P).length -> (((chnL mo P).getD c []).length : Int) = size := fun c hc => by
 unfold chnL at hc ⊢
 by_cases e : mo = 0
 ·rw [if_pos e] at hc ⊢
  exact hl _ (getD_mem' P c hc)
 ·rw [if_neg e] at hc ⊢
  have h := hl _ (getD_mem' P 0 h0);have hc2 : c < 2 := hc
  rcases (show c = 0 ∨ c = 1 by omega) with rfl | rfl
  ·show ((zipN (stP mo.toNat) (P.getD 0 []) (P.getD 1 []) (P.getD 0 []).length).length : Int) = size
   rw [zipN_len]; exact h
  ·show ((zipN (stQ mo.toNat) (P.getD 0 []) (P.getD 1 []) (P.getD 0 []).length).length : Int) = size
   rw [zipN_len]; exact h
theorem encR_room4 {c : Rc} {b r : Int} {l : List Int} (h : encR c b r l = true) (hb : b <= 4608) : (encB c b.toNat r.toNat l).length <= 85000000000 := by
 obtain ⟨b', o', r', rfl, rfl, hk, hf⟩ := encR_yes h
 have hl := ((fitB_iff c b' o' r' l).1 hf).1
 have hot : c.o.toNat = o' := by have := hk.ho; omega
 have h1 := partsB_len c hk.m1 hk.cut l hl (2 ^ o') (Nat.le_refl _)
 have h2 := frN_bound hk.cut (2 ^ o') (Nat.le_refl _)
 have h3 := pow15 o' hk.cut.o15
 have h4 := putB_short c.m 2 (by omega)
 have h5 := putB_short c.o 4 (by omega)
 have h6 : 17000000 * frN b' o' r' (2 ^ o') <= 17000000 * 4608 := Nat.mul_le_mul_left _ (by omega)
 unfold encB
 rw [Int.toNat_natCast, Int.toNat_natCast, hot]
 simp only [List.length_append]
 omega
theorem subB_room4 (q : Sb) (v : Int) (l : List Int) (h4 : l.length <= 4608) (h : okS q v l) : (subB q v l).length <= 90000000000 := by
 obtain ⟨⟨hb, hv, hw, hkd⟩, hf, hd, hs, hr⟩ := h
 have hml : (shrL l q.w.toNat).length = l.length := shr_len l q.w.toNat
 have hll : l.length <= 65535 := by omega
 have e1 := putB_short (typN q) 7 (by decide)
 have e2 := wstB_short q.w (by omega)
 have hres : (q.k = 2 ∨ q.k = 3) -> (encB q.R (shrL l q.w.toNat).length q.o.toNat (resN q (shrL l q.w.toNat))).length <= 85000000000 := fun hk => by
  have := encR_room4 (hr hk) (by omega)
  rw [Int.toNat_natCast] at this;rw [hml]; exact this
 have hnm : ∀ X : List Int, X.length <= 65535 -> (numsB 0 (v - q.w) X).length <= 64 * 65535 := fun X hX => by
  have := numsB_fit_len (v - q.w) X (by omega) (by omega); omega
 have htk : ((shrL l q.w.toNat).take q.o.toNat).length <= 65535 := by rw [List.length_take]; omega
 have hbody : (bodyB q v (shrL l q.w.toNat)).length <= 89000000000 := by
  unfold bodyB
  split
  ·have := sigB_short ((shrL l q.w.toNat).getD 0 0) (v - q.w); omega
  ·split
   ·have := hnm (shrL l q.w.toNat) (by omega); omega
   ·split
    ·rename_i hk
     rw [List.length_append];have := hnm _ htk; have := hres (Or.inl hk); omega
    ·rename_i k0 k1 k2
     have hk3 : q.k = 3 := by have := kd_kinds hkd; unfold kinds at this; omega
     have hL : q.p <= 15 /\ 1 <= q.p /\ (q.C.length : Int) = q.o /\ q.o <= 32 := by
      rcases hkd with hA | hF | hL
      ·have := hA.1; omega
      ·have := hF.1; omega
      ·obtain ⟨_, _, h3, _, h5, h6, _, _, h9, _⟩ := hL; exact ⟨h6, h5, h9, h3⟩
     simp only [List.length_append];have a1 := hnm _ htk;have a2 := hres (Or.inr hk3);have a3 := putB_short (q.p - 1) 4 (by decide)
     have a4 := putB_short q.h 5 (by decide)
     have a5 := numsB_fit_len q.p q.C (by omega) (by omega)
     omega
 unfold subB
 simp only [List.length_append]
 omega
theorem chB_room (i : Inf) (mo : Int) (S : List Sb) (L : List (List Int)) (n : Nat) (hn : n <= 8) (h : ∀ c, c < n -> okS (S.getD c Sb0) (wdA i mo c) (L.getD c []) /\ (L.getD c []).length <= 4608) : (chB i mo S L n).length <= 90000000000 * n := by
 induction n with
 | zero => exact Nat.le_refl _
 | succ n ih =>
  have h1 := ih (by omega) (fun c hc => h c (by omega))
  have h2 := subB_room4 _ _ _ (h n (by omega)).2 (h n (by omega)).1
  show (chB i mo S L n ++ _).length <= _;rw [List.length_append];omega
structure RowsP (F : Nat -> Prop) (w : World) (po : OA) (P : List (List Int)) : Prop where
 len : P.length <= 5864062014805
 lies : 0 < P.length -> ∃ b off, po = some ⟨b, off, none⟩ /\ ¬ F b /\ ∀ c, c < P.length -> ∃ a k, w.cell? ⟨b, off + c, none⟩ = some (.slice a (P.getD c []).length k) /\ (P.getD c []).length <= k /\ (a = none -> k = 0) /\ IntsAt w a (P.getD c []) /\ (0 < (P.getD c []).length -> ∀ b', blockOf a = some b' -> ¬ F b')
theorem IntsAt.blk {w : World} {a : OA} {l : List Int} (h : IntsAt w a l) (h0 : 0 < l.length) (b : Nat) (hb : blockOf a = some b) : b < w.heap.size := by
 obtain ⟨b2, off, e, hc⟩ := h.lies h0
 have h1 := hc 0 h0
 have h2 := lt_cell h1
 rw [e] at hb
 have e3 : b2 = b := by simpa [blockOf] using hb
 rw [<- e3]; exact h2
theorem RowsAt.old {we w : World} {po : OA} {P : List (List Int)} (h : RowsAt we po P) (hb : Lo we w) (F : Nat -> Prop) (hF : ∀ k, F k -> we.heap.size <= k) : RowsP F w po P := by
 refine ⟨h.len, fun h0 => ?_⟩
 obtain ⟨b, off, e, hc⟩ := h.lies h0
 obtain ⟨a0, k0, h10, _⟩ := hc 0 h0
 refine ⟨b, off, e, fun hf => by have := hF b hf; have := lt_cell h10; simp only at this; omega, fun c hl => ?_⟩
 obtain ⟨a, k, h1, h2, h3, h4⟩ := hc c hl
 exact ⟨a, k, by rw [World.cell?_of_block (w := we) (hb.block _ (lt_cell h1))]; exact h1, h2, h3, h4.below hb, fun hl0 b' hb' hf => by have := hF b' hf; have := h4.blk hl0 b' hb'; omega⟩
theorem RowsP.rows {F : Nat -> Prop} {w : World} {po : OA} {P : List (List Int)} (h : RowsP F w po P) : RowsAt w po P := by
 refine ⟨h.len, fun h0 => ?_⟩
 obtain ⟨b, off, e, _, hc⟩ := h.lies h0
 refine ⟨b, off, e, fun c hl => ?_⟩
 obtain ⟨a, k, h1, h2, h3, h4, _⟩ := hc c hl
 exact ⟨a, k, h1, h2, h3, h4⟩
def RetF (R : Option (List Int × List Int)) (w : World) (e : Ending) (w' : World) : Prop := ∃ xa xc ya yc, e = .returned (.tuple #[.slice xa (ansL (R.map Prod.fst)).length xc, .slice ya (ansL (R.map Prod.snd)).length yc, .int .i64 (ansE (R.map Prod.fst))]) /\ (IntsAt w' xa (ansL (R.map Prod.fst)) /\ IntsAt w' ya (ansL (R.map Prod.snd)) /\ Lo w w') /\ ((ansL (R.map Prod.fst)).length <= xc /\ (xa = none -> xc = 0)) /\ ((ansL (R.map Prod.snd)).length <= yc /\ (ya = none -> yc = 0)) /\ Fr w.heap.size xa /\ Fr w.heap.size ya
theorem retF_none {R : Option (List Int × List Int)} (h : R = none) {w w' : World} {e : Ending} (he : e = .returned (.tuple #[.slice none 0 0, .slice none 0 0, .int .i64 1])) (hb : Lo w w') : RetF R w e w' := by
 subst h
 exact ⟨none, 0, none, 0, he, ⟨IntsAt.nil _, IntsAt.nil _, hb⟩, ⟨Nat.le_refl _, fun _ => rfl⟩, ⟨Nat.le_refl _, fun _ => rfl⟩, (fun b hb => by cases hb), (fun b hb => by cases hb)⟩
theorem retF_some {R : Option (List Int × List Int)} {L M : List Int} (h : R = some (L, M)) {w w' : World} {e : Ending} {g k n : Nat} (he : e = .returned (.tuple #[.slice (some ⟨g, 0, none⟩) L.length n, .slice (some ⟨k, 0, none⟩) M.length n, .int .i64 0])) (hL : L.length = n) (hM : M.length = n) (h1 : IntsAt w' (some ⟨g, 0, none⟩) L) (h2 : IntsAt w' (some ⟨k, 0, none⟩) M) (hb : Lo w w') (hg : w.heap.size <= g) (hk : w.heap.size <= k) : RetF R w e w' := by
 subst h
 exact ⟨_, n, _, n, he, ⟨h1, h2, hb⟩, ⟨by show L.length <= n; omega, fun e => by cases e⟩, ⟨by show M.length <= n; omega, fun e => by cases e⟩, (fun b hb => by simp [blockOf] at hb; omega), (fun b hb => by simp [blockOf] at hb; omega)⟩
def stR (m : Int) (a b : List Int) : Option (List Int × List Int) := if (0 <= m /\ m <= 3) /\ a.length = b.length /\ inB a 1099511627776 = true /\ inB b 1099511627776 = true then some (zipN (stP m.toNat) a b a.length, zipN (stQ m.toNat) a b a.length) else none
theorem inB_at (l : List Int) (M : Int) (h : inB l M = true) (hM : 0 <= M) (j : Nat) : -M <= l.getD j 0 /\ l.getD j 0 <= M := by
 rw [inB_iff] at h
 rw [List.getD_eq_getElem?_getD]
 cases e : l[j]? with
 | none => simp; omega
 | some x => exact h x (List.mem_of_getElem? e)
theorem zipN_num (f : Int -> Int -> Int) (a b : List Int) (M : Int) (hM : 0 <= M) (ha : inB a M = true) (hb : inB b M = true) (hf : ∀ p q, -M <= p /\ p <= M -> -M <= q /\ q <= M -> -9223372036854775808 <= f p q /\ f p q <= 9223372036854775807) (n : Nat) : Rng (zipN f a b n) := by
 induction n with
 | zero => intro x hx; cases hx
 | succ n ih =>
  intro x hx
  rcases List.mem_append.1 hx with hx | hx
  ·exact ih x hx
  ·rw [List.mem_singleton] at hx; rw [hx]; exact hf _ _ (inB_at a M ha hM n) (inB_at b M hb hM n)
theorem qnear_spec (l : List Int) (M : Int) (hM0 : 0 <= M) (hM : M <= 4398046511104) (la : OA) (lc : Nat) (w : World) (hl : IntsAt w la l) : Calls Tryz.prog 162 #[.slice la l.length lc, .int .i64 M] w fun e w' => e = .returned (.bool (inB l M)) /\ w' = w := by
 have h1 := hl.len
 have HL := kQ hl
 have HDT : Hid (inB l M = true ↔ ∀ j, j < l.length -> -M <= l.getD j 0 /\ l.getD j 0 <= M) := by
  show _ ↔ _;rw [inB_iff]
  constructor
  ·intro h j hj
   refine h _ ?_;rw [List.getD_eq_getElem?_getD, List.getElem?_eq_getElem hj]; exact List.getElem_mem hj
  ·intro h n hn
   obtain ⟨j, hj, rfl⟩ := List.getElem_of_mem hn;have := h j hj;rw [List.getD_eq_getElem?_getD, List.getElem?_eq_getElem hj] at this;exact this
 clear hl
 go_enter Tryz.func162, Tryz.ntmps162
 go_wp2_with fail
 go_loopw [6, 9] (fun s6 t wr => ∃ i : Nat, i <= l.length /\ t = .int .i64 (i : Int) /\ (∀ j, j < i -> -M <= l.getD j 0 /\ l.getD j 0 <= M) /\ wr = w) (fun _ t _ => l.length - (intOf t).toNat)
 case atStart => exact ⟨0, Nat.zero_le _, rfl, fun j hj => absurd hj (Nat.not_lt_zero _), rfl⟩
 case round =>
  obtain ⟨i, hi, rfl, hall, rfl⟩ := hrel;have HA := kQ hall;clear hall;by_cases hlt : i < l.length
  focus
   obtain ⟨b1, o1, rfl, q1⟩ := HL.out.at i hlt;have r1 := q1 wr (Below.refl _ _);clear q1;obtain ⟨x, hx⟩ : ∃ x, x = l.getD i 0 := ⟨_, rfl⟩;have HXE := kQ hx;rw [<- hx] at r1;clear hx
   have HF : Hid (¬ (-M <= x /\ x <= M) -> inB l M = false) := fun hne => by
    cases h : inB l M with
    | false => rfl
    | true =>
     have := HDT.out.1 h i hlt;rw [<- HXE.out] at this;exact absurd this hne
   by_cases hg : x < -M;rotate_left
   focus
    by_cases hs : M < x;rotate_left
    ·have HA2 : Hid (∀ j, j < i + 1 -> -M <= l.getD j 0 /\ l.getD j 0 <= M) := fun j hj => by
      by_cases e : j = i
      ·rw [e, <- HXE.out]; omega
      ·exact HA.out j (by omega)
     go_wp2_with fail
     go_roundw
     case rel => exact ⟨i + 1, by omega, by go_num, HA2.out, by trivial⟩
     case measure => simp [intOf]; omega
   rotate_left
  rotate_left 2
  ·have HF : Hid (inB l M = true) := HDT.out.2 (fun j hj => HA.out j (by omega))
   go_wp2_with fail
   go_ret;exact ⟨by rw [HF.out]; rfl, rfl⟩
  all_goals
   have HF2 : Hid (inB l M = false) := HF.out (by omega)
   go_wp2_with fail
   go_ret;exact ⟨by rw [HF2.out]; rfl, rfl⟩
def twoB (m : Int) (a b : List Int) (M : Int) : Bool := decide (0 <= m) && decide (m <= 3) && decide (a.length = b.length) && inB a M && inB b M
theorem twoB_iff (m : Int) (a b : List Int) (M : Int) : twoB m a b M = true ↔ (0 <= m /\ m <= 3) /\ a.length = b.length /\ inB a M = true /\ inB b M = true := by unfold twoB; simp [and_assoc]
theorem twoB_no (m : Int) (a b : List Int) (M : Int) (h : ¬ ((0 <= m /\ m <= 3) /\ a.length = b.length /\ inB a M = true /\ inB b M = true)) : twoB m a b M = false := by
 cases e : twoB m a b M with
 | false => rfl
 | true => exact absurd ((twoB_iff m a b M).1 e) h
theorem qtwo_spec (m : Int) (a b : List Int) (M : Int) (hM0 : 0 <= M) (hM : M <= 4398046511104) (aa ba : OA) (ac bc : Nat) (w : World) (ha : IntsAt w aa a) (hb : IntsAt w ba b) : Calls Tryz.prog 120 #[.int .i64 m, .slice aa a.length ac, .slice ba b.length bc, .int .i64 M] w fun e w' => e = .returned (.bool (twoB m a b M)) /\ w' = w := by
 have KA : Hid (G0 162 #[.slice aa a.length ac, .int .i64 M] w (.bool (inB a M))) := qnear_spec a M hM0 hM aa ac w ha
 have KB : Hid (G0 162 #[.slice ba b.length bc, .int .i64 M] w (.bool (inB b M))) := qnear_spec b M hM0 hM ba bc w hb
 have hal := ha.len
 have hbl := hb.len
 clear ha hb
 by_cases g1 : ¬ 0 <= m
 rotate_left
 focus
  skip
  by_cases g2 : ¬ m <= 3;rotate_left
  ·skip
   by_cases g3 : ¬ a.length = b.length
   ·have hF : twoB m a b M = false := twoB_no m a b M (fun h => g3 h.2.1)
    rw [hF];clear hF;have hbn : ((a.length : Int) == (b.length : Int)) = false := eQf (by omega)
    clear g3;go_enter Tryz.func120, Tryz.ntmps120
    go_wp2_with fail
    go_ret;exact ⟨rfl, rfl⟩
   ·skip
    have hbn : ((a.length : Int) == (b.length : Int)) = true := eQt (by omega)
    cases hia : inB a M with
    | false =>
     have hF : twoB m a b M = false := twoB_no m a b M (fun h => by rw [hia] at h; cases h.2.2.1)
     rw [hF];rw [hia] at KA;clear hF hia g3;go_enter Tryz.func120, Tryz.ntmps120
     go_wp2_with fail
     refine KA.out.mono ?_;rintro e w2 ⟨rfl, hw2⟩;subst hw2
     go_wp2_with fail
     go_ret;exact ⟨rfl, rfl⟩
    | true =>
     cases hib : inB b M with
     | false =>
      have hF : twoB m a b M = false := twoB_no m a b M (fun h => by rw [hib] at h; cases h.2.2.2)
      rw [hF];rw [hia] at KA;rw [hib] at KB;clear hF hia hib g3;go_enter Tryz.func120, Tryz.ntmps120
      go_wp2_with fail
      refine KA.out.mono ?_;rintro e w2 ⟨rfl, hw2⟩;subst hw2
      go_wp2_with fail
      refine KB.out.mono ?_;rintro e w2 ⟨rfl, hw2⟩;subst hw2
      go_wp2_with fail
      go_ret;exact ⟨rfl, rfl⟩
     | true =>
      have hF : twoB m a b M = true := (twoB_iff m a b M).2 ⟨⟨by omega, by omega⟩, by omega, hia, hib⟩
      rw [hF];rw [hia] at KA;rw [hib] at KB;clear hF hia hib g3;go_enter Tryz.func120, Tryz.ntmps120
      go_wp2_with fail
      refine KA.out.mono ?_;rintro e w2 ⟨rfl, hw2⟩;subst hw2
      go_wp2_with fail
      refine KB.out.mono ?_;rintro e w2 ⟨rfl, hw2⟩;subst hw2
      go_wp2_with fail
      go_ret;exact ⟨rfl, rfl⟩
 rotate_left
 all_goals
  have hF : twoB m a b M = false := twoB_no m a b M (fun h => by omega)
  rw [hF];clear hF;go_enter Tryz.func120, Tryz.ntmps120
  go_wp2_with fail
  go_ret;exact ⟨rfl, rfl⟩
theorem qcoded_spec (m : Nat) (hm : m <= 3) (p q : Int) (hp : -1099511627776 <= p /\ p <= 1099511627776) (hq : -1099511627776 <= q /\ q <= 1099511627776) (w : World) : Calls Tryz.prog 121 #[.int .i64 (m : Int), .int .i64 p, .int .i64 q] w fun e w' => e = .returned (.tuple #[.int .i64 (stP m p q), .int .i64 (stQ m p q)]) /\ w' = w := by
 obtain ⟨hp1, hp2⟩ := hp
 obtain ⟨hq1, hq2⟩ := hq
 rcases (show m = 0 ∨ m = 1 ∨ m = 2 ∨ m = 3 by omega) with rfl | rfl | rfl | rfl
 focus
  show Calls Tryz.prog 121 #[.int .i64 0, .int .i64 p, .int .i64 q] w fun e w' => e = .returned (.tuple #[.int .i64 (p), .int .i64 (q)]) /\ w' = w
 rotate_left
 focus
  show Calls Tryz.prog 121 #[.int .i64 1, .int .i64 p, .int .i64 q] w fun e w' => e = .returned (.tuple #[.int .i64 (p), .int .i64 (p - q)]) /\ w' = w
 rotate_left
 focus
  show Calls Tryz.prog 121 #[.int .i64 2, .int .i64 p, .int .i64 q] w fun e w' => e = .returned (.tuple #[.int .i64 (p - q), .int .i64 (q)]) /\ w' = w
 rotate_left
 focus
  show Calls Tryz.prog 121 #[.int .i64 3, .int .i64 p, .int .i64 q] w fun e w' => e = .returned (.tuple #[.int .i64 ((p + q) / 2), .int .i64 (p - q)]) /\ w' = w
 rotate_left
 all_goals
  skip
  skip
  skip
  skip
  skip
  skip
  skip
  go_enter Tryz.func121, Tryz.ntmps121
  go_wp2_with fail
  go_ret2
  exact ⟨rfl, rfl⟩
end Go.Proofs.YtfpfabmbipmipaaGreatDoor
