/- Own text. -/
import Derived.Test.YtfpfabmbipmipaaGreatDoorB34
import Derived.Test.YtfpfabmbipmipaaGreatDoorB35
set_option linter.unusedSimpArgs false
set_option linter.unusedVariables false
set_option maxRecDepth 20000
set_option maxHeartbeats 12800000
namespace Go.Proofs.YtfpfabmbipmipaaGreatDoor
open Go.RowKit
abbrev F0 : Fm := ⟨false, 0, 0, 0, 0, 0, 0, []⟩
theorem info_Frame : (Tryz.prog.info? 24).map (·.size) = some 8 := by kernel_rfl
theorem Lay.drewN {w : World} (h : Lay w) (n : Nat) : Lay (w.drewN n) := h.below (below_drewN _ _)
structure GX (w : World) (h : Hd) (a b c d : Int) (i : Inf) (e : Int) (s : ByteArray) (q : Nat) (f : Fm) (wx : World) : Prop where
 hb : wx.heap[w.heap.size]? = some (.cells (hdC h) 78 (0, 0))
 ib : wx.heap[w.heap.size + 1]? = some (.cells (infC a b c d i e s) 26 (0, 0))
 zb : wx.heap[w.heap.size + 2]? = some (.cells (fmC F0 none 0) 24 (0, 0))
 fb : wx.heap[q]? = some (.cells (fmC f none 0) 24 (0, 0))
 below : Lo w wx
 hq : w.heap.size + 2 < q
theorem sizS_rng (c b : Int) (hc : 0 <= c /\ c < 16) (hb : 0 <= b /\ b <= 65535) : 0 <= sizS c b /\ sizS c b <= 70000 := by
 unfold sizS
 split
 ·omega
 ·obtain ⟨n, rfl⟩ : ∃ n : Nat, c = n := ⟨c.toNat, by omega⟩
  have hall : ∀ n : Nat, n < 16 -> 0 <= sizT.getD ((n : Int).toNat) 0 /\ sizT.getD ((n : Int).toNat) 0 <= 70000 := by decide
  exact hall n (by omega)
theorem encR_room4 {c : Rc} {b r : Int} {l : List Int} (h : encR c b r l = true) (hb : b <= 4608) : (encB c b.toNat r.toNat l).length <= 85000000000 := by
 obtain ⟨b', o', r', rfl, rfl, hk, hf⟩ := encR_yes h
 have hl := ((fitB_iff c b' o' r' l).1 hf).1
 have hot : c.o.toNat = o' := by have := hk.ho; omega
 have h1 := partsB_len c hk.m1 hk.cut l hl (2 ^ o') (Nat.le_refl _)
 have h2 := frN_bound hk.cut (2 ^ o') (Nat.le_refl _)
 have h3 := pow15 o' hk.cut.o15
 have h4 := putB_short c.m 2 (by omega)
 have h5 := putB_short c.o 4 (by omega)
 have h6 : 17000000 * frN b' o' r' (2 ^ o') <= 17000000 * 4608 := Nat.mul_le_mul_left _ (by omega)
 unfold encB
 rw [Int.toNat_natCast, Int.toNat_natCast, hot]
 simp only [List.length_append]
 omega
theorem subB_room4 (q : Sb) (v : Int) (l : List Int) (h4 : l.length <= 4608) (h : okS q v l) : (subB q v l).length <= 90000000000 := by
 obtain ⟨⟨hb, hv, hw, hkd⟩, hf, hd, hs, hr⟩ := h
 have hml : (shrL l q.w.toNat).length = l.length := shr_len l q.w.toNat
 have hll : l.length <= 65535 := by omega
 have e1 := putB_short (typN q) 7 (by decide)
 have e2 := wstB_short q.w (by omega)
 have hres : (q.k = 2 ∨ q.k = 3) -> (encB q.R (shrL l q.w.toNat).length q.o.toNat (resN q (shrL l q.w.toNat))).length <= 85000000000 := fun hk => by
  have := encR_room4 (hr hk) (by omega)
  rw [Int.toNat_natCast] at this
  rw [hml]; exact this
 have hnm : ∀ X : List Int, X.length <= 65535 -> (numsB 0 (v - q.w) X).length <= 64 * 65535 := fun X hX => by
  have := numsB_fit_len (v - q.w) X (by omega) (by omega); omega
 have htk : ((shrL l q.w.toNat).take q.o.toNat).length <= 65535 := by rw [List.length_take]; omega
 have hbody : (bodyB q v (shrL l q.w.toNat)).length <= 89000000000 := by
  unfold bodyB
  split
  ·have := sigB_short ((shrL l q.w.toNat).getD 0 0) (v - q.w); omega
  ·split
   ·have := hnm (shrL l q.w.toNat) (by omega); omega
   ·split
    ·rename_i hk
     rw [List.length_append]
     have := hnm _ htk; have := hres (Or.inl hk); omega
    ·rename_i k0 k1 k2
     have hk3 : q.k = 3 := by have := kd_kinds hkd; unfold kinds at this; omega
     have hL : q.p <= 15 /\ 1 <= q.p /\ (q.C.length : Int) = q.o /\ q.o <= 32 := by
      rcases hkd with hA | hF | hL
      ·have := hA.1; omega
      ·have := hF.1; omega
      ·obtain ⟨_, _, h3, _, h5, h6, _, _, h9, _⟩ := hL; exact ⟨h6, h5, h9, h3⟩
     simp only [List.length_append]
     have a1 := hnm _ htk
     have a2 := hres (Or.inr hk3)
     have a3 := putB_short (q.p - 1) 4 (by decide)
     have a4 := putB_short q.h 5 (by decide)
     have a5 := numsB_fit_len q.p q.C (by omega) (by omega)
     omega
 unfold subB
 simp only [List.length_append]
 omega
theorem chB_room (i : Inf) (mo : Int) (S : List Sb) (L : List (List Int)) (n : Nat) (hn : n <= 8) (h : ∀ c, c < n -> okS (S.getD c Sb0) (wdA i mo c) (L.getD c []) /\ (L.getD c []).length <= 4608) : (chB i mo S L n).length <= 90000000000 * n := by
 induction n with
 | zero => exact Nat.le_refl _
 | succ n ih =>
  have h1 := ih (by omega) (fun c hc => h c (by omega))
  have h2 := subB_room4 _ _ _ (h n (by omega)).2 (h n (by omega)).1
  show (chB i mo S L n ++ _).length <= _
  rw [List.length_append]
  omega
structure RowsP (F : Nat -> Prop) (w : World) (po : OA) (P : List (List Int)) : Prop where
 len : P.length <= 5864062014805
 lies : 0 < P.length -> ∃ b off, po = some ⟨b, off, none⟩ /\ ¬ F b /\ ∀ c, c < P.length -> ∃ a k, w.cell? ⟨b, off + c, none⟩ = some (.slice a (P.getD c []).length k) /\ (P.getD c []).length <= k /\ (a = none -> k = 0) /\ IntsAt w a (P.getD c []) /\ (0 < (P.getD c []).length -> ∀ b', blockOf a = some b' -> ¬ F b')
theorem IntsAt.blk {w : World} {a : OA} {l : List Int} (h : IntsAt w a l) (h0 : 0 < l.length) (b : Nat) (hb : blockOf a = some b) : b < w.heap.size := by
 obtain ⟨b2, off, e, hc⟩ := h.lies h0
 have h1 := hc 0 h0
 have h2 := lt_cell h1
 rw [e] at hb
 have e3 : b2 = b := by simpa [blockOf] using hb
 rw [<- e3]; exact h2
theorem RowsAt.old {we w : World} {po : OA} {P : List (List Int)} (h : RowsAt we po P) (hb : Lo we w) (F : Nat -> Prop) (hF : ∀ k, F k -> we.heap.size <= k) : RowsP F w po P := by
 refine ⟨h.len, fun h0 => ?_⟩
 obtain ⟨b, off, e, hc⟩ := h.lies h0
 obtain ⟨a0, k0, h10, _⟩ := hc 0 h0
 refine ⟨b, off, e, fun hf => by have := hF b hf; have := lt_cell h10; simp only at this; omega, fun c hl => ?_⟩
 obtain ⟨a, k, h1, h2, h3, h4⟩ := hc c hl
 exact ⟨a, k, by rw [World.cell?_of_block (w := we) (hb.block _ (lt_cell h1))]; exact h1, h2, h3, h4.below hb, fun hl0 b' hb' hf => by have := hF b' hf; have := h4.blk hl0 b' hb'; omega⟩
theorem RowsP.rows {F : Nat -> Prop} {w : World} {po : OA} {P : List (List Int)} (h : RowsP F w po P) : RowsAt w po P := by
 refine ⟨h.len, fun h0 => ?_⟩
 obtain ⟨b, off, e, _, hc⟩ := h.lies h0
 refine ⟨b, off, e, fun c hl => ?_⟩
 obtain ⟨a, k, h1, h2, h3, h4, _⟩ := hc c hl
 exact ⟨a, k, h1, h2, h3, h4⟩
def RetF (R : Option (List Int × List Int)) (w : World) (e : Ending) (w' : World) : Prop := ∃ xa xc ya yc, e = .returned (.tuple #[.slice xa (ansL (R.map Prod.fst)).length xc, .slice ya (ansL (R.map Prod.snd)).length yc, .int .i64 (ansE (R.map Prod.fst))]) /\ (IntsAt w' xa (ansL (R.map Prod.fst)) /\ IntsAt w' ya (ansL (R.map Prod.snd)) /\ Lo w w') /\ ((ansL (R.map Prod.fst)).length <= xc /\ (xa = none -> xc = 0)) /\ ((ansL (R.map Prod.snd)).length <= yc /\ (ya = none -> yc = 0)) /\ Fr w.heap.size xa /\ Fr w.heap.size ya
theorem retF_none {R : Option (List Int × List Int)} (h : R = none) {w w' : World} {e : Ending} (he : e = .returned (.tuple #[.slice none 0 0, .slice none 0 0, .int .i64 1])) (hb : Lo w w') : RetF R w e w' := by
 subst h
 exact ⟨none, 0, none, 0, he, ⟨IntsAt.nil _, IntsAt.nil _, hb⟩, ⟨Nat.le_refl _, fun _ => rfl⟩, ⟨Nat.le_refl _, fun _ => rfl⟩, (fun b hb => by cases hb), (fun b hb => by cases hb)⟩
theorem retF_some {R : Option (List Int × List Int)} {L M : List Int} (h : R = some (L, M)) {w w' : World} {e : Ending} {g k n : Nat} (he : e = .returned (.tuple #[.slice (some ⟨g, 0, none⟩) L.length n, .slice (some ⟨k, 0, none⟩) M.length n, .int .i64 0])) (hL : L.length = n) (hM : M.length = n) (h1 : IntsAt w' (some ⟨g, 0, none⟩) L) (h2 : IntsAt w' (some ⟨k, 0, none⟩) M) (hb : Lo w w') (hg : w.heap.size <= g) (hk : w.heap.size <= k) : RetF R w e w' := by
 subst h
 exact ⟨_, n, _, n, he, ⟨h1, h2, hb⟩, ⟨by show L.length <= n; omega, fun e => by cases e⟩, ⟨by show M.length <= n; omega, fun e => by cases e⟩, (fun b hb => by simp [blockOf] at hb; omega), (fun b hb => by simp [blockOf] at hb; omega)⟩
def stR (m : Int) (a b : List Int) : Option (List Int × List Int) := if (0 <= m /\ m <= 3) /\ a.length = b.length /\ inB a 1099511627776 = true /\ inB b 1099511627776 = true then some (zipN (stP m.toNat) a b a.length, zipN (stQ m.toNat) a b a.length) else none
def ustR (m : Int) (a b : List Int) : Option (List Int × List Int) := if (0 <= m /\ m <= 3) /\ a.length = b.length /\ inB a 4398046511104 = true /\ inB b 4398046511104 = true then some (zipN (unP m.toNat) a b a.length, zipN (unQ m.toNat) a b a.length) else none
theorem inB_at (l : List Int) (M : Int) (h : inB l M = true) (hM : 0 <= M) (j : Nat) : -M <= l.getD j 0 /\ l.getD j 0 <= M := by
 rw [inB_iff] at h
 rw [List.getD_eq_getElem?_getD]
 cases e : l[j]? with
 | none => simp; omega
 | some x => exact h x (List.mem_of_getElem? e)
theorem zipN_num (f : Int -> Int -> Int) (a b : List Int) (M : Int) (hM : 0 <= M) (ha : inB a M = true) (hb : inB b M = true) (hf : ∀ p q, -M <= p /\ p <= M -> -M <= q /\ q <= M -> -9223372036854775808 <= f p q /\ f p q <= 9223372036854775807) (n : Nat) : Rng (zipN f a b n) := by
 induction n with
 | zero => intro x hx; cases hx
 | succ n ih =>
  intro x hx
  rcases List.mem_append.1 hx with hx | hx
  ·exact ih x hx
  ·rw [List.mem_singleton] at hx; rw [hx]; exact hf _ _ (inB_at a M ha hM n) (inB_at b M hb hM n)
theorem qnear_spec (l : List Int) (M : Int) (hM0 : 0 <= M) (hM : M <= 4398046511104) (la : OA) (lc : Nat) (w : World) (hl : IntsAt w la l) : Calls Tryz.prog 162 #[.slice la l.length lc, .int .i64 M] w fun e w' => e = .returned (.bool (inB l M)) /\ w' = w := by
 have h1 := hl.len
 have HL := kQ hl
 have HDT : Hid (inB l M = true ↔ ∀ j, j < l.length -> -M <= l.getD j 0 /\ l.getD j 0 <= M) := by
  show _ ↔ _
  rw [inB_iff]
  constructor
  ·intro h j hj
   refine h _ ?_
   rw [List.getD_eq_getElem?_getD, List.getElem?_eq_getElem hj]; exact List.getElem_mem hj
  ·intro h n hn
   obtain ⟨j, hj, rfl⟩ := List.getElem_of_mem hn
   have := h j hj
   rw [List.getD_eq_getElem?_getD, List.getElem?_eq_getElem hj] at this
   exact this
 clear hl
 go_enter Tryz.func162, Tryz.ntmps162
 go_wp2_with fail
 go_loopw [6, 9] (fun s6 t wr => ∃ i : Nat, i <= l.length /\ t = .int .i64 (i : Int) /\ (∀ j, j < i -> -M <= l.getD j 0 /\ l.getD j 0 <= M) /\ wr = w) (fun _ t _ => l.length - (intOf t).toNat)
 case atStart => exact ⟨0, Nat.zero_le _, rfl, fun j hj => absurd hj (Nat.not_lt_zero _), rfl⟩
 case round =>
  obtain ⟨i, hi, rfl, hall, rfl⟩ := hrel
  have HA := kQ hall
  clear hall
  by_cases hlt : i < l.length
  focus
   obtain ⟨b1, o1, rfl, q1⟩ := HL.out.at i hlt
   have r1 := q1 wr (Below.refl _ _)
   clear q1
   obtain ⟨x, hx⟩ : ∃ x, x = l.getD i 0 := ⟨_, rfl⟩
   have HXE := kQ hx
   rw [<- hx] at r1
   clear hx
   have HF : Hid (¬ (-M <= x /\ x <= M) -> inB l M = false) := fun hne => by
    cases h : inB l M with
    | false => rfl
    | true =>
     have := HDT.out.1 h i hlt
     rw [<- HXE.out] at this
     exact absurd this hne
   by_cases hg : x < -M
   rotate_left
   focus
    by_cases hs : M < x
    rotate_left
    ·have HA2 : Hid (∀ j, j < i + 1 -> -M <= l.getD j 0 /\ l.getD j 0 <= M) := fun j hj => by
      by_cases e : j = i
      ·rw [e, <- HXE.out]; omega
      ·exact HA.out j (by omega)
     go_wp2_with fail
     go_roundw
     case rel => exact ⟨i + 1, by omega, by go_num, HA2.out, by trivial⟩
     case measure => simp [intOf]; omega
   rotate_left
  rotate_left 2
  ·have HF : Hid (inB l M = true) := HDT.out.2 (fun j hj => HA.out j (by omega))
   go_wp2_with fail
   go_ret
   exact ⟨by rw [HF.out]; rfl, rfl⟩
  all_goals
   have HF2 : Hid (inB l M = false) := HF.out (by omega)
   go_wp2_with fail
   go_ret
   exact ⟨by rw [HF2.out]; rfl, rfl⟩
def twoB (m : Int) (a b : List Int) (M : Int) : Bool := decide (0 <= m) && decide (m <= 3) && decide (a.length = b.length) && inB a M && inB b M
theorem twoB_iff (m : Int) (a b : List Int) (M : Int) : twoB m a b M = true ↔ (0 <= m /\ m <= 3) /\ a.length = b.length /\ inB a M = true /\ inB b M = true := by unfold twoB; simp [and_assoc]
theorem twoB_no (m : Int) (a b : List Int) (M : Int) (h : ¬ ((0 <= m /\ m <= 3) /\ a.length = b.length /\ inB a M = true /\ inB b M = true)) : twoB m a b M = false := by
 cases e : twoB m a b M with
 | false => rfl
 | true => exact absurd ((twoB_iff m a b M).1 e) h
theorem qtwo_spec (m : Int) (a b : List Int) (M : Int) (hM0 : 0 <= M) (hM : M <= 4398046511104) (aa ba : OA) (ac bc : Nat) (w : World) (ha : IntsAt w aa a) (hb : IntsAt w ba b) : Calls Tryz.prog 120 #[.int .i64 m, .slice aa a.length ac, .slice ba b.length bc, .int .i64 M] w fun e w' => e = .returned (.bool (twoB m a b M)) /\ w' = w := by
 have KA : Hid (G0 162 #[.slice aa a.length ac, .int .i64 M] w (.bool (inB a M))) := qnear_spec a M hM0 hM aa ac w ha
 have KB : Hid (G0 162 #[.slice ba b.length bc, .int .i64 M] w (.bool (inB b M))) := qnear_spec b M hM0 hM ba bc w hb
 have hal := ha.len
 have hbl := hb.len
 clear ha hb
 by_cases g1 : ¬ 0 <= m
 rotate_left
 focus
  skip
  by_cases g2 : ¬ m <= 3
  rotate_left
  ·skip
   by_cases g3 : ¬ a.length = b.length
   ·have hF : twoB m a b M = false := twoB_no m a b M (fun h => g3 h.2.1)
    rw [hF]
    clear hF
    have hbn : ((a.length : Int) == (b.length : Int)) = false := eQf (by omega)
    clear g3
    go_enter Tryz.func120, Tryz.ntmps120
    go_wp2_with fail
    go_ret
    exact ⟨rfl, rfl⟩
   ·skip
    have hbn : ((a.length : Int) == (b.length : Int)) = true := eQt (by omega)
    cases hia : inB a M with
    | false =>
     have hF : twoB m a b M = false := twoB_no m a b M (fun h => by rw [hia] at h; cases h.2.2.1)
     rw [hF]
     rw [hia] at KA
     clear hF hia g3
     go_enter Tryz.func120, Tryz.ntmps120
     go_wp2_with fail
     refine KA.out.mono ?_
     rintro e w2 ⟨rfl, hw2⟩
     subst hw2
     go_wp2_with fail
     go_ret
     exact ⟨rfl, rfl⟩
    | true =>
     cases hib : inB b M with
     | false =>
      have hF : twoB m a b M = false := twoB_no m a b M (fun h => by rw [hib] at h; cases h.2.2.2)
      rw [hF]
      rw [hia] at KA
      rw [hib] at KB
      clear hF hia hib g3
      go_enter Tryz.func120, Tryz.ntmps120
      go_wp2_with fail
      refine KA.out.mono ?_
      rintro e w2 ⟨rfl, hw2⟩
      subst hw2
      go_wp2_with fail
      refine KB.out.mono ?_
      rintro e w2 ⟨rfl, hw2⟩
      subst hw2
      go_wp2_with fail
      go_ret
      exact ⟨rfl, rfl⟩
     | true =>
      have hF : twoB m a b M = true := (twoB_iff m a b M).2 ⟨⟨by omega, by omega⟩, by omega, hia, hib⟩
      rw [hF]
      rw [hia] at KA
      rw [hib] at KB
      clear hF hia hib g3
      go_enter Tryz.func120, Tryz.ntmps120
      go_wp2_with fail
      refine KA.out.mono ?_
      rintro e w2 ⟨rfl, hw2⟩
      subst hw2
      go_wp2_with fail
      refine KB.out.mono ?_
      rintro e w2 ⟨rfl, hw2⟩
      subst hw2
      go_wp2_with fail
      go_ret
      exact ⟨rfl, rfl⟩
 rotate_left
 all_goals
  have hF : twoB m a b M = false := twoB_no m a b M (fun h => by omega)
  rw [hF]
  clear hF
  go_enter Tryz.func120, Tryz.ntmps120
  go_wp2_with fail
  go_ret
  exact ⟨rfl, rfl⟩
theorem qcoded_spec (m : Nat) (hm : m <= 3) (p q : Int) (hp : -1099511627776 <= p /\ p <= 1099511627776) (hq : -1099511627776 <= q /\ q <= 1099511627776) (w : World) : Calls Tryz.prog 121 #[.int .i64 (m : Int), .int .i64 p, .int .i64 q] w fun e w' => e = .returned (.tuple #[.int .i64 (stP m p q), .int .i64 (stQ m p q)]) /\ w' = w := by
 obtain ⟨hp1, hp2⟩ := hp
 obtain ⟨hq1, hq2⟩ := hq
 rcases (show m = 0 ∨ m = 1 ∨ m = 2 ∨ m = 3 by omega) with rfl | rfl | rfl | rfl
 focus
  show Calls Tryz.prog 121 #[.int .i64 0, .int .i64 p, .int .i64 q] w fun e w' => e = .returned (.tuple #[.int .i64 (p), .int .i64 (q)]) /\ w' = w
 rotate_left
 focus
  show Calls Tryz.prog 121 #[.int .i64 1, .int .i64 p, .int .i64 q] w fun e w' => e = .returned (.tuple #[.int .i64 (p), .int .i64 (p - q)]) /\ w' = w
 rotate_left
 focus
  show Calls Tryz.prog 121 #[.int .i64 2, .int .i64 p, .int .i64 q] w fun e w' => e = .returned (.tuple #[.int .i64 (p - q), .int .i64 (q)]) /\ w' = w
 rotate_left
 focus
  show Calls Tryz.prog 121 #[.int .i64 3, .int .i64 p, .int .i64 q] w fun e w' => e = .returned (.tuple #[.int .i64 ((p + q) / 2), .int .i64 (p - q)]) /\ w' = w
 rotate_left
 all_goals
  skip
  skip
  skip
  skip
  skip
  skip
  skip
  go_enter Tryz.func121, Tryz.ntmps121
  go_wp2_with fail
  go_ret2
  exact ⟨rfl, rfl⟩
theorem quncoded_spec (m : Nat) (hm : m <= 3) (p q : Int) (hp : -4398046511104 <= p /\ p <= 4398046511104) (hq : -4398046511104 <= q /\ q <= 4398046511104) (w : World) : Calls Tryz.prog 143 #[.int .i64 (m : Int), .int .i64 p, .int .i64 q] w fun e w' => e = .returned (.tuple #[.int .i64 (unP m p q), .int .i64 (unQ m p q)]) /\ w' = w := by
 obtain ⟨hp1, hp2⟩ := hp
 obtain ⟨hq1, hq2⟩ := hq
 rcases (show m = 0 ∨ m = 1 ∨ m = 2 ∨ m = 3 by omega) with rfl | rfl | rfl | rfl
 focus
  show Calls Tryz.prog 143 #[.int .i64 0, .int .i64 p, .int .i64 q] w fun e w' => e = .returned (.tuple #[.int .i64 (p), .int .i64 (q)]) /\ w' = w
 rotate_left
 focus
  show Calls Tryz.prog 143 #[.int .i64 1, .int .i64 p, .int .i64 q] w fun e w' => e = .returned (.tuple #[.int .i64 (p), .int .i64 (p - q)]) /\ w' = w
 rotate_left
 focus
  show Calls Tryz.prog 143 #[.int .i64 2, .int .i64 p, .int .i64 q] w fun e w' => e = .returned (.tuple #[.int .i64 (p + q), .int .i64 (q)]) /\ w' = w
 rotate_left
 ·show Calls Tryz.prog 143 #[.int .i64 3, .int .i64 p, .int .i64 q] w fun e w' => e = .returned (.tuple #[.int .i64 ((p * 2 + q % 2 + q) / 2), .int .i64 ((p * 2 + q % 2 - q) / 2)]) /\ w' = w
  have hb1 := i64_mask q 1 (by decide)
  have hb2 : bits BinOp.and IntKind.i64 q 1 = q % 2 := hb1
  have hb3 : 0 <= q % 2 /\ q % 2 <= 1 := by omega
  have hb4 : 2 * p = p * 2 := by omega
  obtain ⟨hb5, hb6⟩ := hb3
  generalize q % 2 = r at *
  clear hb1
  go_enter Tryz.func143, Tryz.ntmps143
  go_wp2_with fail
  go_ret2
  exact ⟨rfl, rfl⟩
 all_goals
  skip
  skip
  skip
  skip
  skip
  skip
  skip
  go_enter Tryz.func143, Tryz.ntmps143
  go_wp2_with fail
  go_ret2
  exact ⟨rfl, rfl⟩
end Go.Proofs.YtfpfabmbipmipaaGreatDoor
