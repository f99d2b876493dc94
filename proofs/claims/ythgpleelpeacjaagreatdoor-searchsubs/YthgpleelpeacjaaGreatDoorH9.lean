/- Own text. -/
import Derived.Test.YthgpleelpeacjaaGreatDoorH8
set_option linter.unusedSimpArgs false
set_option linter.unusedVariables false
set_option maxRecDepth 20000
set_option maxHeartbeats 12800000
namespace Go.Proofs.YthgpleelpeacjaaGreatDoor
open Go.RowKit
def ordF (l : List Int) (b r o : Nat) (i k : Nat) : Nat := costF (partN l b o r i) k
def ShY (l : List Int) : Prop := (∀ x ∈ l, foldN x / 2 ^ 14 ≤ 16777216) ∧ l.length ≤ 65535
theorem ShY.x {l : List Int} (h : ShY l) : ShX l := ⟨trivial, h.2⟩
theorem ShY.part {l : List Int} (h : ShY l) (b o r i : Nat) : ShY (partN l b o r i) := ⟨fun x hx => h.1 x (List.mem_of_mem_drop (List.mem_of_mem_take hx)), (h.x.part b o r i).2⟩
theorem ShY.c14 {l : List Int} (h : ShY l) : costF l 14 ≤ 1100000000000 := by
 have hc := (codB_iff l 14).2 h.1
 have := costN_le l 14 (by decide) h.1
 have := h.2
 unfold costF; rw [if_pos hc]; omega
def ordS (l : List Int) (b r o : Nat) : Nat := chS (ordF l b r o) (2 ^ o)
def bestRc (l : List Int) (b r o : Nat) : Rc := ⟨0, o, chP (ordF l b r o) (2 ^ o), chE (2 ^ o)⟩
theorem fr_merge {b o r : Nat} (h : Cut b (o + 1) r) (i : Nat) : frN b o r i = frN b (o + 1) r (2 * i) := by
 unfold frN; rw [h.half, Nat.mul_comm 2 i, Nat.mul_assoc]
theorem part_merge (l : List Int) {b o r : Nat} (h : Cut b (o + 1) r) (i : Nat) : partN l b o r i = partN l b (o + 1) r (2 * i) ++ partN l b (o + 1) r (2 * i + 1) := by
 unfold partN
 rw [fr_merge h i, fr_merge h (i + 1), show 2 * (i + 1) = 2 * i + 1 + 1 by omega]
 have h1 := frN_mono b (o + 1) r (2 * i)
 have h2 := frN_mono b (o + 1) r (2 * i + 1)
 generalize frN b (o + 1) r (2 * i) = x at *
 generalize frN b (o + 1) r (2 * i + 1) = y at *
 generalize frN b (o + 1) r (2 * i + 1 + 1) = z at *
 rw [show z - x = (y - x) + (z - y) by omega, List.take_add, List.drop_drop, show x + (y - x) = y by omega]
theorem ordF_merge (l : List Int) (hs : ShX l) {b o r : Nat} (h : Cut b (o + 1) r) (i k : Nat) (hk : k ≤ 30) : pl (ordF l b r (o + 1) (2 * i) k) (ordF l b r (o + 1) (2 * i + 1) k) = ordF l b r o i k := by
 unfold ordF; rw [part_merge l h i, costF_append _ _ (hs.part _ _ _ _) (hs.part _ _ _ _) k hk]
theorem ordF_le (l : List Int) (hs : ShX l) (b r o i k : Nat) (hk : k ≤ 30) : ordF l b r o i k ≤ 1100000000000 ∨ ordF l b r o i k = 1000000000000000 := costF_le _ (hs.part b o r i) k hk
theorem ordF_14 (l : List Int) (hs : ShY l) (b r o i : Nat) : ordF l b r o i 14 ≤ 1100000000000 := (hs.part b o r i).c14
def capF (f : Nat → Nat → Nat) (i k : Nat) : Nat := if k ≤ 30 then f i k else 0
theorem bestK_congr (f g : Nat → Nat) (n : Nat) (h : ∀ k, k ≤ n → f k = g k) : bestK f n = bestK g n := by
 induction n with
 | zero => rfl
 | succ n ih =>
  have e := ih (fun k hk => h k (by omega))
  have hl := bestK_le g n
  unfold bestK
  rw [e, h (n + 1) (by omega), h (bestK g n) (by omega)]
theorem chP_congr (f g : Nat → Nat → Nat) (n : Nat) (h : ∀ i k, k ≤ 14 → f i k = g i k) : chP f n = chP g n := by
 unfold chP
 apply List.map_congr_left
 intro i _
 rw [bestK_congr (f i) (g i) 14 (fun k hk => h i k hk)]
theorem chS_congr (f g : Nat → Nat → Nat) (n : Nat) (h : ∀ i k, k ≤ 14 → f i k = g i k) : chS f n = chS g n := by
 induction n with
 | zero => rfl
 | succ n ih =>
  have e := bestK_congr (f n) (g n) 14 (fun k hk => h n k hk)
  have hl := bestK_le (g n) 14
  unfold chS
  rw [ih, e, h n (bestK (g n) 14) (by omega)]
theorem cap_eq (f : Nat → Nat → Nat) (i k : Nat) (hk : k ≤ 14) : capF f i k = f i k := by unfold capF; rw [if_pos (by omega)]
def dnK (f : Nat → Nat) (q : Nat) : Nat → Nat
 | 0 => q
 | n + 1 => if f (q - (n + 1)) ≤ f (dnK f q n) then q - (n + 1) else dnK f q n
theorem dnK_in (f : Nat → Nat) (q n : Nat) (hn : n ≤ q) : q - n ≤ dnK f q n ∧ dnK f q n ≤ q ∧ (∀ j, q - n ≤ j → j ≤ q → f (dnK f q n) ≤ f j) ∧ (∀ j, q - n ≤ j → j < dnK f q n → f (dnK f q n) < f j) := by
 induction n with
 | zero =>
  refine ⟨by unfold dnK; omega, by unfold dnK; omega, fun j h1 h2 => ?_, fun j h1 h2 => ?_⟩
  ·unfold dnK; rw [show j = q by omega]; exact Nat.le_refl _
  ·unfold dnK at h2; omega
 | succ n ih =>
  obtain ⟨i1, i2, i3, i4⟩ := ih (by omega)
  unfold dnK
  split
  ·rename_i hle
   refine ⟨Nat.le_refl _, by omega, fun j h1 h2 => ?_, fun j h1 h2 => by omega⟩
   by_cases e : j = q - (n + 1)
   ·rw [e]; exact Nat.le_refl _
   ·exact Nat.le_trans hle (i3 j (by omega) h2)
  ·rename_i hle
   refine ⟨by omega, i2, fun j h1 h2 => ?_, fun j h1 h2 => ?_⟩
   ·by_cases e : j = q - (n + 1)
    ·rw [e]; omega
    ·exact i3 j (by omega) h2
   ·by_cases e : j = q - (n + 1)
    ·rw [e]; omega
    ·exact i4 j (by omega) h2
theorem bestK_in (f : Nat → Nat) (n : Nat) : (∀ j, j ≤ n → f (bestK f n) ≤ f j) ∧ (∀ j, j < bestK f n → f (bestK f n) < f j) := by
 induction n with
 | zero => exact ⟨fun j h => by rw [show j = 0 by omega]; exact Nat.le_refl _, fun j h => absurd h (Nat.not_lt_zero _)⟩
 | succ n ih =>
  obtain ⟨i1, i2⟩ := ih
  have hl := bestK_le f n
  unfold bestK
  split
  ·rename_i hlt
   refine ⟨fun j h => ?_, fun j h => ?_⟩
   ·by_cases e : j = n + 1
    ·rw [e]; exact Nat.le_refl _
    ·exact Nat.le_of_lt (Nat.lt_of_lt_of_le hlt (i1 j (by omega)))
   ·exact Nat.lt_of_lt_of_le hlt (i1 j (by omega))
  ·rename_i hlt
   refine ⟨fun j h => ?_, i2⟩
   by_cases e : j = n + 1
   ·rw [e]; omega
   ·exact i1 j (by omega)
theorem dn_best (f : Nat → Nat) (q : Nat) : dnK f q q = bestK f q := by
 obtain ⟨_, a2, a3, a4⟩ := dnK_in f q q (Nat.le_refl _)
 obtain ⟨b1, b2⟩ := bestK_in f q
 have hl := bestK_le f q
 rcases Nat.lt_trichotomy (dnK f q q) (bestK f q) with h | h | h
 ·have := b2 _ h; have := a3 (bestK f q) (by omega) hl; omega
 ·exact h
 ·have := a4 _ (by omega) h; have := b1 (dnK f q q) a2; omega
structure BS (w : World) (l : List Int) (b r g k p c gp ge : Nat) (wx : World) : Prop where
 px : PxB wx g (2 ^ p) (capF (ordF l b r p))
 bk : wx.heap[k]? = some (.cells #[.int .i64 0, .int .i64 (c : Int), .slice (some ⟨gp, 0, none⟩) (2 ^ c) (2 ^ c), .slice (some ⟨ge, 0, none⟩) (2 ^ c) (2 ^ c)] 25 (0, 0))
 bp : IntsBlk wx gp (bestRc l b r c).P
 be : IntsBlk wx ge (bestRc l b r c).E
 rb : wx.heap[w.heap.size]? = some (.cells #[.int .i64 0, .int .i64 0, .slice none 0 0, .slice none 0 0] 25 (0, 0))
 below : Below w.heap.size w wx
 gpk : gp ≠ k
 gek : ge ≠ k
 gpg : gp ≠ g
 geg : ge ≠ g
 gk : g ≠ k
 nk : w.heap.size < k
 ng : w.heap.size < g
 np : w.heap.size < gp
 ne : w.heap.size < ge
section
variable {w wx w' : World} {l : List Int} {b r g k p c gp ge p' : Nat}
theorem BS.low (h : BS w l b r g k p c gp ge wx) (hb : Below wx.heap.size wx w') : BS w l b r g k p c gp ge w' :=
 ⟨h.px.below hb, by rw [hb.block _ (lt_of_block h.bk)]; exact h.bk, h.bp.below hb, h.be.below hb, by rw [hb.block _ (lt_of_block h.rb)]; exact h.rb, h.below.trans (hb.mono h.below.size), h.gpk, h.gek, h.gpg, h.geg, h.gk, h.nk, h.ng, h.np, h.ne⟩
theorem BS.merge (h : BS w l b r g k p c gp ge wx) (hp : PxB w' g (2 ^ p') (capF (ordF l b r p'))) (hS : Stays (fun x => x = g) wx w') : BS w l b r g k p' c gp ge w' := by
 have h1 := h.ng
 refine ⟨hp, by rw [hS.block _ (lt_of_block h.bk) (fun e => h.gk e.symm)]; exact h.bk, h.bp.stays hS (fun e => h.gpg e), h.be.stays hS (fun e => h.geg e), by rw [hS.block _ (lt_of_block h.rb) (fun e => by have e' : w.heap.size = g := e; omega)]; exact h.rb, ⟨hS.os.trans h.below.os, hS.tape.trans h.below.tape, hS.output.trans h.below.output, Nat.le_trans h.below.size hS.size, fun i hi => ?_⟩, h.gpk, h.gek, h.gpg, h.geg, h.gk, h.nk, h.ng, h.np, h.ne⟩
 rw [hS.block i (by have := h.below.size; omega) (fun e => by have e' : i = g := e; omega)]
 exact h.below.block i hi
theorem BS.cells (h : BS w l b r g k p c gp ge wx) : wx.cell? ⟨k, 0, none⟩ = some (.int .i64 0) ∧ wx.cell? ⟨k, 1, none⟩ = some (.int .i64 (c : Int)) ∧ wx.cell? ⟨k, 2, none⟩ = some (.slice (some ⟨gp, 0, none⟩) (2 ^ c) (2 ^ c)) ∧ wx.cell? ⟨k, 3, none⟩ = some (.slice (some ⟨ge, 0, none⟩) (2 ^ c) (2 ^ c)) := by
 refine ⟨?_, ?_, ?_, ?_⟩ <;> (rw [cell_of_row _ _ _ _ _ _ h.bk]; rfl)
theorem BS.frozen (h : BS w l b r g k p c gp ge wx) (o : Nat) : wx.frozen? ⟨k, o, none⟩ = false := by simp [World.frozen?, h.bk]
end
theorem best_main (b o r : Nat) (hC : Cut b o r) (ho4 : o ≤ 4) (hall : ∀ o' : Nat, o < o' → o' ≤ 4 → ¬ cutOk b r o') (l : List Int) (hs : ShY l) (lo : Option Addr) (cap : Nat) (hc : l.length ≤ cap) (h0 : lo = none → cap = 0) (w : World) (hl : IntsAt w lo l) (hn : l.length = b - r) :
  Calls Tryz.prog 144 #[.int .i64 (b : Int), .int .i64 (r : Int), .slice lo l.length cap] w fun en w' => ∃ gp ge, en = .returned (.tuple #[riceV (bestRc l b r (bestK (ordS l b r) o)) (some ⟨gp, 0, none⟩) (2 ^ bestK (ordS l b r) o) (some ⟨ge, 0, none⟩) (2 ^ bestK (ordS l b r) o), .int .i64 (ordS l b r (bestK (ordS l b r) o) : Int)]) ∧ IntsBlk w' gp (bestRc l b r (bestK (ordS l b r) o)).P ∧ IntsBlk w' ge (bestRc l b r (bestK (ordS l b r) o)).E ∧ w.heap.size ≤ gp ∧ w.heap.size ≤ ge ∧ Below w.heap.size w w' := by
 have KF : Hid (∀ wx, Calls Tryz.prog 190 #[.int .i64 (b : Int), .int .i64 (r : Int)] wx fun en w' => en = .returned (.tuple #[cutV ((2 ^ o : Nat) : Int) ((b / 2 ^ o : Nat) : Int) (r : Int), .int .i64 (o : Int)]) ∧ Below wx.heap.size wx w') := fun wx => finest_yes b o r hC ho4 hall wx
 have hp := pow15 o hC.o15
 have hdv := hC.dv
 have hr2 := hC.r2
 have hb2 := hC.b2
 have hrb := hC.rb
 have hd : b / 2 ^ o ≤ 65535 := by have := Nat.div_le_self b (2 ^ o); omega
 have hl5 := hs.2
 have KN : Hid (∀ wx, Calls Tryz.prog 191 #[cutV ((2 ^ o : Nat) : Int) ((b / 2 ^ o : Nat) : Int) (r : Int)] wx fun e w' => e = .returned (.int .i64 ((b - r : Nat) : Int)) ∧ Below wx.heap.size wx w') := fun wx => by
  have hh := count_spec (2 ^ o) (b / 2 ^ o) r (by omega) hr2 hp.2 hd wx
  rw [hdv] at hh
  refine hh.mono ?_
  rintro e w' ⟨rfl, hb⟩
  refine ⟨?_, hb⟩
  rw [show ((b - r : Nat) : Int) = (b : Int) - (r : Int) by omega]
 have hbn : ((l.length : Int) != ((b - r : Nat) : Int)) = false := by rw [bne_eq_false_iff_eq]; omega
 have hcb : ∀ p i k, capF (ordF l b r p) i k ≤ 1100000000000 ∨ capF (ordF l b r p) i k = 1000000000000000 := fun p i k => by
  unfold capF; split
  ·rename_i hk; exact ordF_le l hs.x b r p i k hk
  ·exact Or.inl (Nat.zero_le _)
 have h14 : ∀ p i, capF (ordF l b r p) i 14 ≤ 1100000000000 := fun p i => by
  unfold capF; rw [if_pos (by decide)]; exact ordF_14 l hs b r p i
 have hpw : ∀ p, p ≤ o → 2 ^ p ≤ 16 := fun p hp => Nat.le_trans (Nat.pow_le_pow_right (by decide) (show p ≤ 4 by omega)) (by decide)
 have KPX : Hid (∀ wx, Below w.heap.size w wx → Calls Tryz.prog 192 #[.slice lo l.length cap, cutV ((2 ^ o : Nat) : Int) ((b / 2 ^ o : Nat) : Int) (r : Int)] wx fun en w' => ∃ g, en = .returned (.slice (some ⟨g, 0, none⟩) (2 ^ o) (2 ^ o)) ∧ PxB w' g (2 ^ o) (capF (ordF l b r o)) ∧ wx.heap.size ≤ g ∧ Below wx.heap.size wx w') := fun wx hb => (pricesOf_spec b o r hC l hn hs.x lo cap hc h0 wx (hl.below hb)).mono fun e w' hh => by
  obtain ⟨g, h1, h2, h3, h4⟩ := hh
  exact ⟨g, h1, h2.congr _ (fun i k _ hk => (cap_eq (ordF l b r o) i k (by omega)).symm), h3, h4⟩
 have KCH : Hid (∀ p g cp wx, p ≤ o → PxB wx g (2 ^ p) (capF (ordF l b r p)) → Calls Tryz.prog 193 #[.slice (some ⟨g, 0, none⟩) (2 ^ p) cp, .int .i64 (p : Int)] wx fun en w' => ∃ gp ge, en = .returned (.tuple #[.agg #[.int .i64 0, .int .i64 (p : Int), .slice (some ⟨gp, 0, none⟩) (2 ^ p) (2 ^ p), .slice (some ⟨ge, 0, none⟩) (2 ^ p) (2 ^ p)], .int .i64 (ordS l b r p : Int)]) ∧ IntsBlk w' gp (bestRc l b r p).P ∧ IntsBlk w' ge (bestRc l b r p).E ∧ wx.heap.size ≤ gp ∧ wx.heap.size ≤ ge ∧ Below wx.heap.size wx w') := fun p g cp wx hp hx => (cheapest_spec g (2 ^ p) cp p (capF (ordF l b r p)) (fun i k => by have := hcb p i k; omega) (fun i => h14 p i) (hpw p hp) wx hx).mono fun e w' hh => by
  obtain ⟨gp, ge, h1, h2, h3, h4, h5, h6⟩ := hh
  have e1 := chP_congr (capF (ordF l b r p)) (ordF l b r p) (2 ^ p) (fun i k hk => cap_eq _ i k hk)
  have e2 := chS_congr (capF (ordF l b r p)) (ordF l b r p) (2 ^ p) (fun i k hk => cap_eq _ i k hk)
  refine ⟨gp, ge, ?_, ?_, h3, h4, h5, h6⟩
  ·rw [h1]
   show Ending.returned (.tuple #[.agg #[.int .i64 0, .int .i64 (p : Int), .slice (some ⟨gp, 0, none⟩) (chP (capF (ordF l b r p)) (2 ^ p)).length (2 ^ p), .slice (some ⟨ge, 0, none⟩) (chE (2 ^ p)).length (2 ^ p)], .int .i64 (chS (capF (ordF l b r p)) (2 ^ p) : Int)]) = _
   rw [chP_len, chE_len, e2]
   rfl
  ·rw [e1] at h2; exact h2
 have KMG : Hid (∀ p g cp wx, p + 1 ≤ o → 2 ^ (p + 1) ≤ cp → PxB wx g (2 ^ (p + 1)) (capF (ordF l b r (p + 1))) → Calls Tryz.prog 194 #[.slice (some ⟨g, 0, none⟩) (2 ^ (p + 1)) cp] wx fun en w' => en = .returned (.slice (some ⟨g, 0, none⟩) (2 ^ p) cp) ∧ PxB w' g (2 ^ p) (capF (ordF l b r p)) ∧ Stays (fun x => x = g) wx w') := fun p g cp wx hp hcp hx => by
  have e : 2 ^ (p + 1) = 2 * 2 ^ p := by rw [Nat.pow_succ]; omega
  rw [e] at hx hcp ⊢
  refine (merged_spec (2 ^ p) g cp hcp (hpw p (by omega)) (Nat.pow_pos (by decide)) (capF (ordF l b r (p + 1))) (fun i k => by have := hcb (p + 1) i k; omega) wx hx).mono fun e w' hh => ?_
  refine ⟨hh.1, hh.2.1.congr _ (fun i k _ hk => ?_), hh.2.2⟩
  rw [cap_eq _ _ k (by omega), cap_eq _ _ k (by omega), cap_eq _ _ k (by omega)]
  exact ordF_merge l hs.x (hC.to (p + 1) hp) i k (by omega)
 have HPC : Hid (∀ p, p ≤ o → 2 ^ p ≤ 2 ^ o) := fun p hp => Nat.pow_le_pow_right (by decide) hp
 have hsb : ∀ p, p ≤ o → ordS l b r p ≤ 18000000000000 := fun p hp => by
  have e2 := chS_congr (capF (ordF l b r p)) (ordF l b r p) (2 ^ p) (fun i k hk => cap_eq _ i k hk)
  have := chS_le (capF (ordF l b r p)) (fun i => h14 p i) (2 ^ p)
  have := hpw p hp
  unfold ordS
  rw [← e2]
  have : 1100000000004 * 2 ^ p ≤ 1100000000004 * 16 := Nat.mul_le_mul_left _ (hpw p hp)
  omega
 have HSB : Hid (∀ p, p ≤ o → ordS l b r p ≤ 18000000000000) := hsb
 have HDN : Hid (dnK (ordS l b r) o o = bestK (ordS l b r) o) := dn_best _ _
 have HDI : Hid (∀ n, n ≤ o → dnK (ordS l b r) o n ≤ o) := fun n hn => (dnK_in (ordS l b r) o n hn).2.1
 clear hC hall hl hs hdv hcb h14 hpw hsb hc h0 hn
 generalize hNN : ((2 ^ o : Nat) : Int) = N at *
 generalize ((b / 2 ^ o : Nat) : Int) = d at *
 have hn1 : 1 ≤ N := by rw [← hNN]; omega
 clear hNN
 generalize b - r = br at *
 have hNb : (N == 0) = false := by rw [beq_eq_false_iff_ne]; omega
 have HB0 : Hid (Below w.heap.size w (w.alloc (.cells #[.int .i64 0, .int .i64 0, .slice none 0 0, .slice none 0 0] 25))) := (Below.refl _ _).alloc (Nat.le_refl _) _
 have HX0 : Hid ((w.alloc (.cells #[.int .i64 0, .int .i64 0, .slice none 0 0, .slice none 0 0] 25)).heap[w.heap.size]? = some (.cells #[.int .i64 0, .int .i64 0, .slice none 0 0, .slice none 0 0] 25 (0, 0))) := heap_alloc_new _ _
 go_enter Tryz.func144, Tryz.ntmps144
 go_wp2_with fail
 generalize hwa : w.alloc _ = wa at *
 clear hwa
 refine (KF.out wa).mono ?_
 rintro e w2 ⟨rfl, hb2⟩
 have HB2 : Hid (Below w.heap.size w w2) := HB0.out.trans (hb2.mono HB0.out.size)
 have HX2 : Hid (w2.heap[w.heap.size]? = some (.cells #[.int .i64 0, .int .i64 0, .slice none 0 0, .slice none 0 0] 25 (0, 0))) := by show _ = _; rw [hb2.block _ (lt_of_block HX0.out)]; exact HX0.out
 clear hb2 HB0 HX0
 have HB3 : Hid (Below w2.heap.size w2 (w2.alloc (.cells #[.int .i64 N, .int .i64 d, .int .i64 (r : Int)] 198))) := (Below.refl _ _).alloc (Nat.le_refl _) _
 have HX3 : Hid ((w2.alloc (.cells #[.int .i64 N, .int .i64 d, .int .i64 (r : Int)] 198)).heap[w.heap.size]? = some (.cells #[.int .i64 0, .int .i64 0, .slice none 0 0, .slice none 0 0] 25 (0, 0))) := by show _ = _; rw [HB3.out.block _ (lt_of_block HX2.out)]; exact HX2.out
 have HB4 : Hid (Below w.heap.size w (w2.alloc (.cells #[.int .i64 N, .int .i64 d, .int .i64 (r : Int)] 198))) := HB2.out.trans (HB3.out.mono HB2.out.size)
 have HC3 : Hid ((w2.alloc (.cells #[.int .i64 N, .int .i64 d, .int .i64 (r : Int)] 198)).heap[w2.heap.size]? = some (.cells #[.int .i64 N, .int .i64 d, .int .i64 (r : Int)] 198 (0, 0))) := heap_alloc_new _ _
 go_wp2_with fail
 generalize hw3 : w2.alloc _ = w3 at *
 generalize hcq : w2.heap.size = cq at *
 clear hw3 hcq
 refine (KN.out w3).mono ?_
 rintro e w4 ⟨rfl, hb4⟩
 have HX4 : Hid (w4.heap[w.heap.size]? = some (.cells #[.int .i64 0, .int .i64 0, .slice none 0 0, .slice none 0 0] 25 (0, 0))) := by show _ = _; rw [hb4.block _ (lt_of_block HX3.out)]; exact HX3.out
 have HB5 : Hid (Below w.heap.size w w4) := HB4.out.trans (hb4.mono HB4.out.size)
 have hcc : w4.heap[cq]? = some (.cells #[.int .i64 N, .int .i64 d, .int .i64 (r : Int)] 198 (0, 0)) := by rw [hb4.block _ (lt_of_block HC3.out)]; exact HC3.out
 have y0 : w4.cell? ⟨cq, 0, none⟩ = some (.int .i64 N) := by rw [cell_of_row _ _ _ _ _ _ hcc]; rfl
 have y1 : w4.cell? ⟨cq, 1, none⟩ = some (.int .i64 d) := by rw [cell_of_row _ _ _ _ _ _ hcc]; rfl
 have y2 : w4.cell? ⟨cq, 2, none⟩ = some (.int .i64 (r : Int)) := by rw [cell_of_row _ _ _ _ _ _ hcc]; rfl
 clear hb4 HX3 HB4 HC3 HB3 HB2 HX2
 go_wp2_with fail
 refine (KPX.out w4 HB5.out).mono ?_
 rintro e w5 ⟨g, rfl, hpx, hg5, hb5⟩
 have HX5 : Hid (w5.heap[w.heap.size]? = some (.cells #[.int .i64 0, .int .i64 0, .slice none 0 0, .slice none 0 0] 25 (0, 0))) := by show _ = _; rw [hb5.block _ (lt_of_block HX4.out)]; exact HX4.out
 have HB6 : Hid (Below w.heap.size w w5) := HB5.out.trans (hb5.mono HB5.out.size)
 have hz4 := lt_of_block HX4.out
 have HPX : Hid (PxB w5 g (2 ^ o) (capF (ordF l b r o))) := hpx
 have hgl := hpx.lt
 clear hpx hb5 y0 y1 y2 hcc HX4 HB5
 have kc := KCH.out o g (2 ^ o) w5 (Nat.le_refl _) HPX.out
 go_wp2_with fail
 refine kc.mono ?_
 rintro e w6 ⟨gp, ge, rfl, hP6, hE6, hg6, hg7, hb6⟩
 have HB9 : Hid (BS w l b r g w6.heap.size o o gp ge (w6.alloc (.cells #[.int .i64 0, .int .i64 (o : Int), .slice (some ⟨gp, 0, none⟩) (2 ^ o) (2 ^ o), .slice (some ⟨ge, 0, none⟩) (2 ^ o) (2 ^ o)] 25))) := by
  have ha : Below w6.heap.size w6 (w6.alloc (.cells #[.int .i64 0, .int .i64 (o : Int), .slice (some ⟨gp, 0, none⟩) (2 ^ o) (2 ^ o), .slice (some ⟨ge, 0, none⟩) (2 ^ o) (2 ^ o)] 25)) := (Below.refl _ _).alloc (Nat.le_refl _) _
  have hb7 : Below w5.heap.size w5 (w6.alloc (.cells #[.int .i64 0, .int .i64 (o : Int), .slice (some ⟨gp, 0, none⟩) (2 ^ o) (2 ^ o), .slice (some ⟨ge, 0, none⟩) (2 ^ o) (2 ^ o)] 25)) := hb6.trans (ha.mono hb6.size)
  have q1 := hP6.lt
  have q2 := hE6.lt
  have q3 := hb6.size
  exact ⟨HPX.out.below hb7, heap_alloc_new _ _, hP6.below ha, hE6.below ha, by rw [hb7.block _ (lt_of_block HX5.out)]; exact HX5.out, HB6.out.trans (hb7.mono HB6.out.size), by omega, by omega, by omega, by omega, by omega, by omega, by omega, by omega, by omega⟩
 clear kc hP6 hE6 hb6 HPX HX5 HB6
 go_wp2_with fail
 generalize hw7 : w6.alloc _ = w7 at *
 generalize hk7 : w6.heap.size = k at *
 clear hw7 hk7 hg6 hg7 hgl hg5 hz4
 go_loopw [9, 10, 12, 13, 14] (fun s9 s10 s12 s13 s14 wr => ∃ (n gp ge : Nat), n ≤ o ∧ s9 = .int .i64 ((o - n : Nat) : Int) ∧ s10 = .slice (some ⟨g, 0, none⟩) (2 ^ (o - n)) (2 ^ o) ∧ s12 = .int .i64 ((ordS l b r (dnK (ordS l b r) o n) : Nat) : Int) ∧ BS w l b r g k (o - n) (dnK (ordS l b r) o n) gp ge wr) (fun s9 _ _ _ _ _ => (intOf s9).toNat)
 case atStart => exact ⟨0, gp, ge, Nat.zero_le _, rfl, rfl, rfl, HB9.out⟩
 case round =>
  clear HB9
  obtain ⟨n, gp, ge, hno, rfl, rfl, rfl, hbs⟩ := hrel
  have HB : Hid (BS w l b r g k (o - n) (dnK (ordS l b r) o n) gp ge wr) := hbs
  clear hbs
  by_cases hlt : n < o
  ·obtain ⟨p, hpo⟩ : ∃ p, o - n = p + 1 := ⟨o - n - 1, by omega⟩
   have hpn : o - (n + 1) = p := by omega
   have HPN : Hid (o - (n + 1) = p) := hpn
   have HDS : Hid (dnK (ordS l b r) o (n + 1) = if ordS l b r p ≤ ordS l b r (dnK (ordS l b r) o n) then p else dnK (ordS l b r) o n) := by
    have hh : dnK (ordS l b r) o (n + 1) = if ordS l b r (o - (n + 1)) ≤ ordS l b r (dnK (ordS l b r) o n) then o - (n + 1) else dnK (ordS l b r) o n := rfl
    rw [hpn] at hh
    exact hh
   have hcle := HDI.out n (by omega)
   have hpo2 : p + 1 ≤ o := by omega
   rw [hpo] at HB ⊢
   clear hpo
   have hf1 := HSB.out p (by omega)
   have hf2 := HSB.out (dnK (ordS l b r) o n) hcle
   have km := KMG.out p g (2 ^ o) wr (by omega) (HPC.out (p + 1) (by omega)) HB.out.px
   generalize dnK (ordS l b r) o n = c at *
   have hps : ((p + 1 : Nat) : Int) - 1 = (p : Int) := by omega
   have hp0 : (0 : Int) < ((p + 1 : Nat) : Int) := by omega
   have hp15 : ((p + 1 : Nat) : Int) ≤ 15 := by omega
   generalize ((p + 1 : Nat) : Int) = p1 at *
   clear hpn
   go_wp2_with fail
   refine km.mono ?_
   rintro e w3 ⟨rfl, hpx3, hs3⟩
   have HB3 : Hid (BS w l b r g k p c gp ge w3) := HB.out.merge hpx3 hs3
   clear hpx3 hs3 km HB
   have kc := KCH.out p g (2 ^ o) w3 (by omega) HB3.out.px
   go_wp2_with fail
   refine kc.mono ?_
   rintro e w4 ⟨gp', ge', rfl, hP4, hE4, hg4, hg5, hb4⟩
   have HB4 : Hid (BS w l b r g k p c gp ge (w4.alloc (.cells #[.int .i64 0, .int .i64 (p : Int), .slice (some ⟨gp', 0, none⟩) (2 ^ p) (2 ^ p), .slice (some ⟨ge', 0, none⟩) (2 ^ p) (2 ^ p)] 25))) := (HB3.out.low hb4).low ((Below.refl _ _).alloc (Nat.le_refl _) _)
   have HBX : Hid ((w4.alloc (.cells #[.int .i64 0, .int .i64 (p : Int), .slice (some ⟨gp', 0, none⟩) (2 ^ p) (2 ^ p), .slice (some ⟨ge', 0, none⟩) (2 ^ p) (2 ^ p)] 25)).heap[w4.heap.size]? = some (.cells #[.int .i64 0, .int .i64 (p : Int), .slice (some ⟨gp', 0, none⟩) (2 ^ p) (2 ^ p), .slice (some ⟨ge', 0, none⟩) (2 ^ p) (2 ^ p)] 25 (0, 0))) := heap_alloc_new _ _
   have hkk := lt_of_block HB3.out.bk
   have hgg := HB3.out.px.lt
   have hzz := lt_of_block HB3.out.rb
   have hsz := hb4.size
   have q1 := hP4.lt
   have q2 := hE4.lt
   have HP4 : Hid (IntsBlk (w4.alloc (.cells #[.int .i64 0, .int .i64 (p : Int), .slice (some ⟨gp', 0, none⟩) (2 ^ p) (2 ^ p), .slice (some ⟨ge', 0, none⟩) (2 ^ p) (2 ^ p)] 25)) gp' (bestRc l b r p).P) := hP4.below ((Below.refl _ _).alloc (Nat.le_refl _) _)
   have HE4 : Hid (IntsBlk (w4.alloc (.cells #[.int .i64 0, .int .i64 (p : Int), .slice (some ⟨gp', 0, none⟩) (2 ^ p) (2 ^ p), .slice (some ⟨ge', 0, none⟩) (2 ^ p) (2 ^ p)] 25)) ge' (bestRc l b r p).E) := hE4.below ((Below.refl _ _).alloc (Nat.le_refl _) _)
   clear hP4 hE4 hb4 kc HB3
   obtain ⟨y0, y1, y2, y3⟩ := HB4.out.cells
   have f0 := HB4.out.frozen 0
   have f1 := HB4.out.frozen 1
   have f2 := HB4.out.frozen 2
   have f3 := HB4.out.frozen 3
   have hnk : ¬ w4.heap.size = k := by omega
   have hkn : ¬ k = w4.heap.size := by omega
   by_cases hle : ordS l b r p ≤ ordS l b r c
   ·rw [if_pos hle] at HDS
    go_wp2_with fail
    generalize hwf : World.setCell _ _ _ = wf
    have hO : ∀ i, i ≠ k → wf.heap[i]? = (w4.alloc (.cells #[.int .i64 0, .int .i64 (p : Int), .slice (some ⟨gp', 0, none⟩) (2 ^ p) (2 ^ p), .slice (some ⟨ge', 0, none⟩) (2 ^ p) (2 ^ p)] 25)).heap[i]? := fun i hi => by rw [← hwf]; exact set4_d _ _ _ _ _ i hi
    have hK : wf.heap[k]? = some (.cells #[.int .i64 0, .int .i64 (p : Int), .slice (some ⟨gp', 0, none⟩) (2 ^ p) (2 ^ p), .slice (some ⟨ge', 0, none⟩) (2 ^ p) (2 ^ p)] 25 (0, 0)) := by rw [← hwf]; exact set4_a _ _ _ _ _ HB4.out.bk
    have hbel : Below w.heap.size w wf := by rw [← hwf]; exact (((HB4.out.below.setCell (Nat.le_of_lt HB4.out.nk) _).setCell (Nat.le_of_lt HB4.out.nk) _).setCell (Nat.le_of_lt HB4.out.nk) _).setCell (Nat.le_of_lt HB4.out.nk) _
    clear hwf
    go_roundw
    case rel =>
     refine ⟨n + 1, gp', ge', by omega, by rw [HPN.out], by rw [HPN.out], by rw [HDS.out], ?_⟩
     rw [HPN.out, HDS.out]
     have hB := HB4.out
     have n1 := hB.nk
     refine ⟨?_, hK, ?_, ?_, by rw [hO _ (by omega)]; exact hB.rb, hbel, by omega, by omega, by omega, by omega, hB.gk, hB.nk, hB.ng, by omega, by omega⟩
     ·obtain ⟨cs, a1, a2⟩ := hB.px
      exact ⟨cs, by rw [hO _ hB.gk]; exact a1, a2⟩
     ·unfold IntsBlk; rw [hO _ (by omega)]; exact HP4.out
     ·unfold IntsBlk; rw [hO _ (by omega)]; exact HE4.out
    case measure => simp [intOf]; omega
   ·rw [if_neg hle] at HDS
    go_wp2_with fail
    go_roundw
    case rel =>
     refine ⟨n + 1, gp, ge, by omega, by rw [HPN.out], by rw [HPN.out], by rw [HDS.out], ?_⟩
     rw [HPN.out, HDS.out]
     exact HB4.out
    case measure => simp [intOf]; omega
  ·have hno2 : n = o := by omega
   subst hno2
   rw [Nat.sub_self] at *
   rw [HDN.out] at HB
   have HDN' := HDN.out
   obtain ⟨y0, y1, y2, y3⟩ := HB.out.cells
   have hxr := HB.out.rb
   have u0 : wr.cell? ⟨w.heap.size, 0, none⟩ = some (.int .i64 0) := by rw [cell_of_row _ _ _ _ _ _ hxr]; rfl
   have fu0 : wr.frozen? ⟨w.heap.size, 0, none⟩ = false := by simp [World.frozen?, hxr]
   have u1 : wr.cell? ⟨w.heap.size, 1, none⟩ = some (.int .i64 0) := by rw [cell_of_row _ _ _ _ _ _ hxr]; rfl
   have fu1 : wr.frozen? ⟨w.heap.size, 1, none⟩ = false := by simp [World.frozen?, hxr]
   have u2 : wr.cell? ⟨w.heap.size, 2, none⟩ = some (.slice none 0 0) := by rw [cell_of_row _ _ _ _ _ _ hxr]; rfl
   have fu2 : wr.frozen? ⟨w.heap.size, 2, none⟩ = false := by simp [World.frozen?, hxr]
   have u3 : wr.cell? ⟨w.heap.size, 3, none⟩ = some (.slice none 0 0) := by rw [cell_of_row _ _ _ _ _ _ hxr]; rfl
   have fu3 : wr.frozen? ⟨w.heap.size, 3, none⟩ = false := by simp [World.frozen?, hxr]
   have hkn : ¬ k = w.heap.size := by have := HB.out.nk; omega
   clear hxr
   rw [HDN']
   clear HDN'
   generalize hcc : bestK (ordS l b r) n = c at *
   go_wp2_with fail
   generalize hwf : World.setCell _ _ _ = wf
   have hrow : wf.heap[w.heap.size]? = some (.cells #[.int .i64 0, .int .i64 (c : Int), .slice (some ⟨gp, 0, none⟩) (2 ^ c) (2 ^ c), .slice (some ⟨ge, 0, none⟩) (2 ^ c) (2 ^ c)] 25 (0, 0)) := by rw [← hwf]; exact set4_a _ _ _ _ _ HB.out.rb
   have hO : ∀ i, i ≠ w.heap.size → wf.heap[i]? = wr.heap[i]? := fun i hi => by rw [← hwf]; exact set4_d _ _ _ _ _ i hi
   have hbel : Below w.heap.size w wf := by rw [← hwf]; exact (((HB.out.below.setCell (Nat.le_refl _) _).setCell (Nat.le_refl _) _).setCell (Nat.le_refl _) _).setCell (Nat.le_refl _) _
   have hB := HB.out
   refine bodyPost_ret (v := .tuple #[.agg #[.int .i64 0, .int .i64 (c : Int), .slice (some ⟨gp, 0, none⟩) (2 ^ c) (2 ^ c), .slice (some ⟨ge, 0, none⟩) (2 ^ c) (2 ^ c)], .int .i64 ((ordS l b r c : Nat) : Int)]) ?_ rfl ⟨gp, ge, ?_, ?_, ?_, Nat.le_of_lt hB.np, Nat.le_of_lt hB.ne, hbel⟩
   ·rw [results_two rfl]
    have hld := run_loadVar_row (P := Tryz.prog) wf w.heap.size 25 25 #[.int .i64 0, .int .i64 (c : Int), .slice (some ⟨gp, 0, none⟩) (2 ^ c) (2 ^ c), .slice (some ⟨ge, 0, none⟩) (2 ^ c) (2 ^ c)] (0, 0) _ hrow Tryz.underlying25 rfl info_Rice
    simp [asAddr, Result.andThen, hld]
   ·rw [hcc]
    show _ = Ending.returned (.tuple #[.agg #[.int .i64 0, .int .i64 (c : Int), .slice (some ⟨gp, 0, none⟩) (chP (ordF l b r c) (2 ^ c)).length (2 ^ c), .slice (some ⟨ge, 0, none⟩) (chE (2 ^ c)).length (2 ^ c)], .int .i64 ((ordS l b r c : Nat) : Int)])
    rw [chP_len, chE_len]
   ·rw [hcc]; unfold IntsBlk; rw [hO gp (by have := hB.np; omega)]; exact hB.bp
   ·rw [hcc]; unfold IntsBlk; rw [hO ge (by have := hB.ne; omega)]; exact hB.be
abbrev R00 : Rc := ⟨0, 0, [], []⟩
def cnS (w : Int) : Sb := ⟨0, 0, w, 0, 0, [], R00⟩
def vbS (w : Int) : Sb := ⟨1, 0, w, 0, 0, [], R00⟩
def fxS (w : Int) (o : Nat) : Sb := ⟨2, o, w, 0, 0, [], R00⟩
def lpS (w : Int) (C : List Int) : Sb := ⟨3, (C.length : Int), w, 7, 5, C, R00⟩
abbrev lpcs : List (List Int) := [[31], [60, -29], [63, -31]]
def trL (lv w : Int) : List Sb := (List.range (if 0 < lv then 5 else 3)).map (fxS w) ++ (if lv = 2 then lpcs.map (lpS w) else [])
def cnL (lv w : Int) : List Sb := cnS w :: vbS w :: trL lv w
def triedS (w : Int) (q : Sb) : Prop := q = cnS w ∨ q = vbS w ∨ (∃ o, o ≤ 4 ∧ q = fxS w o) ∨ ∃ C ∈ lpcs, q = lpS w C
theorem cnL_tried (lv w : Int) (q : Sb) (h : q ∈ cnL lv w) : triedS w q := by
 unfold cnL trL at h
 rcases List.mem_cons.1 h with h | h
 ·exact Or.inl h
 rcases List.mem_cons.1 h with h | h
 ·exact Or.inr (Or.inl h)
 rcases List.mem_append.1 h with h | h
 ·obtain ⟨o, ho, rfl⟩ := List.mem_map.1 h
  have := List.mem_range.1 ho
  exact Or.inr (Or.inr (Or.inl ⟨o, by split at this <;> omega, rfl⟩))
 ·split at h
  ·obtain ⟨C, hC, rfl⟩ := List.mem_map.1 h
   exact Or.inr (Or.inr (Or.inr ⟨C, hC, rfl⟩))
  ·cases h
def fnO (b r : Nat) : Nat := if b % 16 = 0 ∧ r ≤ b / 16 then 4 else if b % 8 = 0 ∧ r ≤ b / 8 then 3 else if b % 4 = 0 ∧ r ≤ b / 4 then 2 else if b % 2 = 0 ∧ r ≤ b / 2 then 1 else 0
theorem cutOk_nat (b r o : Nat) (hb : 1 ≤ b) (hb2 : b ≤ 65535) (hr : r ≤ 32) (ho : o ≤ 15) : cutOk b r o ↔ b % 2 ^ o = 0 ∧ r ≤ b / 2 ^ o := by
 have e : (2 : Int) ^ ((o : Int)).toNat = ((2 ^ o : Nat) : Int) := by rw [Int.toNat_natCast]; simp
 unfold cutOk
 rw [e, ← Int.natCast_emod, ← Int.natCast_ediv]
 generalize b % 2 ^ o = x
 generalize b / 2 ^ o = y
 omega
theorem fnO_best (b r : Nat) (hb : 1 ≤ b) (hb2 : b ≤ 65535) (hr : r ≤ 32) (hrb : r ≤ b) : fnO b r ≤ 4 ∧ cutOk b r (fnO b r : Nat) ∧ ∀ o' : Nat, fnO b r < o' → o' ≤ 4 → ¬ cutOk b r o' := by
 have k4 := cutOk_nat b r 4 hb hb2 hr (by decide)
 have k3 := cutOk_nat b r 3 hb hb2 hr (by decide)
 have k2 := cutOk_nat b r 2 hb hb2 hr (by decide)
 have k1 := cutOk_nat b r 1 hb hb2 hr (by decide)
 have k0 := cutOk_nat b r 0 hb hb2 hr (by decide)
 simp only [show (2 : Nat) ^ 4 = 16 from rfl, show (2 : Nat) ^ 3 = 8 from rfl, show (2 : Nat) ^ 2 = 4 from rfl, show (2 : Nat) ^ 1 = 2 from rfl, show (2 : Nat) ^ 0 = 1 from rfl] at k4 k3 k2 k1 k0
 have hall : ∀ n : Nat, (∀ o' : Nat, n < o' → o' ≤ 4 → (o' = 4 → ¬ cutOk b r (4 : Nat)) ∧ (o' = 3 → ¬ cutOk b r (3 : Nat)) ∧ (o' = 2 → ¬ cutOk b r (2 : Nat)) ∧ (o' = 1 → ¬ cutOk b r (1 : Nat))) → ∀ o' : Nat, n < o' → o' ≤ 4 → ¬ cutOk b r o' := fun n h o' h1 h2 => by
  obtain ⟨a, bb, c, d⟩ := h o' h1 h2
  have : o' = 4 ∨ o' = 3 ∨ o' = 2 ∨ o' = 1 := by omega
  rcases this with e | e | e | e
  ·rw [e]; exact a e
  ·rw [e]; exact bb e
  ·rw [e]; exact c e
  ·rw [e]; exact d e
 unfold fnO
 by_cases h4 : b % 16 = 0 ∧ r ≤ b / 16
 ·rw [if_pos h4]
  exact ⟨Nat.le_refl _, k4.2 h4, fun o' h1 h2 => by omega⟩
 rw [if_neg h4]
 by_cases h3 : b % 8 = 0 ∧ r ≤ b / 8
 ·rw [if_pos h3]
  exact ⟨by decide, k3.2 h3, hall 3 (fun o' h1 h2 => ⟨fun _ => fun q => h4 (k4.1 q), fun e => by omega, fun e => by omega, fun e => by omega⟩)⟩
 rw [if_neg h3]
 by_cases h2 : b % 4 = 0 ∧ r ≤ b / 4
 ·rw [if_pos h2]
  exact ⟨by decide, k2.2 h2, hall 2 (fun o' h1 h2 => ⟨fun _ => fun q => h4 (k4.1 q), fun _ => fun q => h3 (k3.1 q), fun e => by omega, fun e => by omega⟩)⟩
 rw [if_neg h2]
 by_cases h1 : b % 2 = 0 ∧ r ≤ b / 2
 ·rw [if_pos h1]
  exact ⟨by decide, k1.2 h1, hall 1 (fun o' a1 a2 => ⟨fun _ => fun q => h4 (k4.1 q), fun _ => fun q => h3 (k3.1 q), fun _ => fun q => h2 (k2.1 q), fun e => by omega⟩)⟩
 rw [if_neg h1]
 exact ⟨by decide, k0.2 ⟨by omega, by omega⟩, hall 0 (fun o' a1 a2 => ⟨fun _ => fun q => h4 (k4.1 q), fun _ => fun q => h3 (k3.1 q), fun _ => fun q => h2 (k2.1 q), fun _ => fun q => h1 (k1.1 q)⟩)⟩
theorem fnO_cut (b r : Nat) (hb : 1 ≤ b) (hb2 : b ≤ 65535) (hr : r ≤ 32) (hrb : r ≤ b) : Cut b (fnO b r) r := by
 obtain ⟨b', r', o', e1, e2, e3, hC⟩ := Cut.of (fnO_best b r hb hb2 hr hrb).2.1
 have e1' : b = b' := by omega
 have e2' : r = r' := by omega
 have e3' : fnO b r = o' := by omega
 rw [e1', e2', ← e1', ← e2', e3']
 rw [← e1', ← e2'] at hC
 exact hC
def brN (b r : Nat) (res : List Int) : Rc := bestRc res b r (bestK (ordS res b r) (fnO b r))
def wiS (q : Sb) (m : List Int) : Sb := if q.k = 0 ∨ q.k = 1 then q else ⟨q.k, q.o, q.w, q.p, q.h, q.C, brN m.length q.o.toNat (resN q m)⟩
def vaB (q : Sb) (l : List Int) : Bool := if q.k = 0 then l.all (fun x => x == l.getD 0 0) else if q.k = 1 then true else decide (q.o ≤ (l.length : Int))
def stS (v : Int) (l m : List Int) (acc : Option (Sb × Nat)) (q : Sb) : Option (Sb × Nat) :=
 if vaB q l = true then
  match acc with
  | none => some (wiS q m, (subB (wiS q m) v l).length)
  | some a => if (subB (wiS q m) v l).length < a.2 then some (wiS q m, (subB (wiS q m) v l).length) else some a
 else acc
def sbR (lv v : Int) (l : List Int) : Option (Sb × Nat) := (cnL lv (wasN l : Int)).foldl (stS v l (shrL l (wasN l))) none
theorem stS_some (v : Int) (l m : List Int) (a : Sb × Nat) (q : Sb) : ∃ a', stS v l m (some a) q = some a' ∧ a'.2 ≤ a.2 := by
 unfold stS
 split
 ·dsimp only
  split
  ·rename_i h; exact ⟨_, rfl, Nat.le_of_lt h⟩
  ·exact ⟨_, rfl, Nat.le_refl _⟩
 ·exact ⟨_, rfl, Nat.le_refl _⟩
theorem fold_some (v : Int) (l m : List Int) (L : List Sb) (a : Sb × Nat) : ∃ a', L.foldl (stS v l m) (some a) = some a' ∧ a'.2 ≤ a.2 := by
 induction L generalizing a with
 | nil => exact ⟨a, rfl, Nat.le_refl _⟩
 | cons q t ih =>
  obtain ⟨a1, h1, h2⟩ := stS_some v l m a q
  obtain ⟨a2, h3, h4⟩ := ih a1
  exact ⟨a2, by rw [List.foldl_cons, h1]; exact h3, Nat.le_trans h4 h2⟩
theorem vb_some (v : Int) (l m : List Int) (acc : Option (Sb × Nat)) (w : Int) : ∃ a, stS v l m acc (vbS w) = some a := by
 have hv : vaB (vbS w) l = true := by unfold vaB vbS; simp
 cases acc with
 | none => unfold stS; rw [if_pos hv]; exact ⟨_, rfl⟩
 | some a => obtain ⟨a', h, _⟩ := stS_some v l m a (vbS w); exact ⟨a', h⟩
theorem sbR_some (lv v : Int) (l : List Int) : ∃ a, sbR lv v l = some a := by
 unfold sbR cnL
 rw [List.foldl_cons, List.foldl_cons]
 obtain ⟨a, h⟩ := vb_some v l (shrL l (wasN l)) (stS v l (shrL l (wasN l)) none (cnS (wasN l))) (wasN l)
 rw [h]
 obtain ⟨a', h1, _⟩ := fold_some v l (shrL l (wasN l)) (trL lv (wasN l)) a
 exact ⟨a', h1⟩
theorem one_len (x : Int) (k : Int) (k0 : 0 ≤ k) (k1 : k ≤ 30) (hx : foldN x / 2 ^ k.toNat ≤ 16777216) : (oneB k (-1) x).length = oneC k.toNat x := by
 unfold oneB rcwB oneC
 rw [if_pos rfl, if_pos ⟨k0, k1, hx⟩]
 simp only [List.length_append, List.length_replicate, List.length_singleton, bitsOf_length]
theorem nums_len (k : Int) (k0 : 0 ≤ k) (k1 : k ≤ 30) (X : List Int) (hX : ∀ x ∈ X, foldN x / 2 ^ k.toNat ≤ 16777216) : (numsB k (-1) X).length = costN X k.toNat := by
 induction X with
 | nil => rfl
 | cons x t ih =>
  have h1 := ih (fun y hy => hX y (List.mem_cons_of_mem _ hy))
  have h2 := one_len x k k0 k1 (hX x (List.mem_cons_self ..))
  have e1 : numsB k (-1) (x :: t) = oneB k (-1) x ++ numsB k (-1) t := by simp [numsB]
  have e2 : costN (x :: t) k.toNat = oneC k.toNat x + costN t k.toNat := by simp [costN]
  rw [e1, e2, List.length_append, h1, h2]
theorem put_len (u k : Int) (n : Nat) (hk : k = n) (hn : n ≤ 64) (hu : u < 2 ^ n) : (putB u k).length = n := by
 have e : k.toNat = n := by omega
 unfold putB
 rw [e, if_pos ⟨by omega, by omega, hu⟩, bitsOf_length]
theorem part_len (k : Int) (k0 : 0 ≤ k) (k1 : k ≤ 14) (X : List Int) (hX : ∀ x ∈ X, foldN x / 2 ^ k.toNat ≤ 16777216) : (partB 0 k (-1) X).length = 4 + costN X k.toNat := by
 unfold partB headB
 rw [if_pos rfl, List.length_append, nums_len k k0 (by omega) X hX, put_len k (4 + 0) 4 rfl (by decide) (by omega)]
theorem getD_chP (F : Nat → Nat → Nat) (n i : Nat) (h : i < n) : (chP F n).getD i 0 = (bestK (F i) 14 : Int) := by
 unfold chP
 rw [List.getD_eq_getElem?_getD, List.getElem?_map, List.getElem?_range h]; rfl
theorem getD_chE (n i : Nat) (h : i < n) : (chE n).getD i 0 = -1 := by
 unfold chE
 rw [List.getD_eq_getElem?_getD, List.getElem?_replicate, if_pos h]; rfl
theorem best_rok {b o r : Nat} (hC : Cut b o r) (l : List Int) : Rok (bestRc l b r o) b o r := by
 refine ⟨hC, rfl, Int.le_refl _, (show (0 : Int) ≤ 1 by decide), chP_len _ _, chE_len _, fun i hi => ?_⟩
 show mayOk 0 ((chP (ordF l b r o) (2 ^ o)).getD i 0) ((chE (2 ^ o)).getD i 0)
 rw [getD_chP _ _ _ hi, getD_chE _ _ hi]
 have := bestK_le (ordF l b r o i) 14
 left
 omega
theorem best_cod {b o r : Nat} (l : List Int) (hs : ShY l) (i : Nat) : codB (partN l b o r i) (bestK (ordF l b r o i) 14) = true := by
 have h1 := bestK_at (ordF l b r o i) 14
 have h2 := ordF_14 l hs b r o i
 cases h : codB (partN l b o r i) (bestK (ordF l b r o i) 14) with
 | true => rfl
 | false =>
  have e : ordF l b r o i (bestK (ordF l b r o i) 14) = 1000000000000000 := by
   show costF _ _ = _
   unfold costF; rw [h]; rfl
  omega
theorem best_fit {b o r : Nat} (l : List Int) (hs : ShY l) (hn : l.length = b - r) : fitB (bestRc l b r o) b o r l = true := by
 refine fitB_yes ⟨hn, fun i hi x hx => ?_⟩
 show fitE ((chP (ordF l b r o) (2 ^ o)).getD i 0) ((chE (2 ^ o)).getD i 0) x
 rw [getD_chP _ _ _ hi, getD_chE _ _ hi]
 have := bestK_le (ordF l b r o i) 14
 exact fit_coded x _ (by omega) (by omega) ((codB_iff _ _).1 (best_cod l hs i) x hx)
theorem best_encR {b o r : Nat} (hC : Cut b o r) (l : List Int) (hs : ShY l) (hn : l.length = b - r) : encR (bestRc l b r o) b r l = true := by
 unfold encR
 rw [Bool.and_eq_true_iff]
 refine ⟨decide_eq_true (best_rok hC l).chk, ?_⟩
 have e : (bestRc l b r o).o.toNat = o := rfl
 rw [e]
 exact best_fit l hs hn
theorem best_parts {b o r : Nat} (l : List Int) (hs : ShY l) (n : Nat) (hn : n ≤ 2 ^ o) : 6 + (partsB (bestRc l b r o) b o r l n).length = chS (ordF l b r o) n := by
 induction n with
 | zero => rfl
 | succ n ih =>
  have i1 := ih (by omega)
  have hb := bestK_le (ordF l b r o n) 14
  have hc := best_cod (b := b) (o := o) (r := r) l hs n
  rw [partsB_succ, List.length_append]
  have e : partB (bestRc l b r o).m ((bestRc l b r o).P.getD n 0) ((bestRc l b r o).E.getD n 0) (partN l b o r n) = partB 0 (bestK (ordF l b r o n) 14 : Int) (-1) (partN l b o r n) := by
   show partB 0 ((chP (ordF l b r o) (2 ^ o)).getD n 0) ((chE (2 ^ o)).getD n 0) _ = _
   rw [getD_chP _ _ _ (by omega), getD_chE _ _ (by omega)]
  rw [e, part_len _ (by omega) (by omega) _ ((codB_iff _ _).1 hc)]
  have e2 : chS (ordF l b r o) (n + 1) = chS (ordF l b r o) n + (4 + ordF l b r o n (bestK (ordF l b r o n) 14)) := rfl
  rw [e2]
  have e3 : ordF l b r o n (bestK (ordF l b r o n) 14) = costN (partN l b o r n) ((bestK (ordF l b r o n) 14 : Int)).toNat := by
   show costF _ _ = _
   unfold costF; rw [if_pos hc]; rfl
  rw [e3]
  omega
theorem best_encL {b o r : Nat} (hC : Cut b o r) (l : List Int) (hs : ShY l) (hn : l.length = b - r) (ho : o ≤ 4) : (encL (bestRc l b r o) b r l).length = ordS l b r o := by
 have e1 : encL (bestRc l b r o) b r l = encB (bestRc l b r o) b r l := by unfold encL; rw [best_encR hC l hs hn]; rfl
 rw [e1]
 have h1 := best_parts (b := b) (o := o) (r := r) l hs (2 ^ o) (Nat.le_refl _)
 have h2 : (putB (bestRc l b r o).m 2).length = 2 := put_len 0 2 2 rfl (by decide) (by decide)
 have h3 : (putB (bestRc l b r o).o 4).length = 4 := put_len (o : Int) 4 4 rfl (by decide) (by omega)
 have e2 : (bestRc l b r o).o.toNat = o := rfl
 unfold encB
 rw [e2, List.length_append, List.length_append, h2, h3]
 unfold ordS
 omega
theorem wid (n : Int) (h : -9223372036854775808 ≤ n ∧ n ≤ 9223372036854775807) : wrap64 n = n := by unfold wrap64; omega
theorem was_lt (l : List Int) (v : Int) (hv : 1 ≤ v) (hl : ∀ x ∈ l, sigE x v = 0) : (wasN l : Int) < v := by
 unfold wasN
 by_cases hz : zerB l = true
 ·rw [if_pos hz]; omega
 rw [if_neg hz]
 have hne : ∃ x, x ∈ l ∧ x ≠ 0 := by
  apply Classical.byContradiction
  intro hno
  apply hz
  unfold zerB
  rw [List.all_eq_true]
  intro x hx
  rw [beq_iff_eq]
  exact Classical.byContradiction fun h => hno ⟨x, hx, h⟩
 obtain ⟨x, hx, h0⟩ := hne
 have hd := (dvB_iff l (wasK l 31)).1 (wasK_dvB l 31) x hx
 obtain ⟨h1, h2, h3, h4⟩ := (sigE_iff x v).1 (hl x hx)
 generalize wasK l 31 = w at *
 apply Classical.byContradiction
 intro hlt
 obtain ⟨k, hk⟩ := Int.dvd_of_emod_eq_zero hd
 obtain ⟨n, hn⟩ : ∃ n, w = (v.toNat - 1) + (n + 1) := ⟨w - (v.toNat - 1) - 1, by omega⟩
 have hp : (2 : Int) ^ w = 2 ^ (v.toNat - 1) * (2 ^ n * 2) := by rw [hn, Int.pow_add, Int.pow_succ]
 have hq : (0 : Int) < 2 ^ (v.toNat - 1) := Int.pow_pos (by decide)
 have hr : (0 : Int) < 2 ^ n := Int.pow_pos (by decide)
 rw [hp, Int.mul_assoc] at hk
 generalize (2 : Int) ^ (v.toNat - 1) = A at *
 generalize (2 : Int) ^ n = T at *
 rw [hk] at h3 h4
 have a1 : (-1 : Int) ≤ T * 2 * k := Int.le_of_mul_le_mul_left (by rw [Int.mul_neg, Int.mul_one]; exact h3) hq
 have a2 : T * 2 * k < 1 := Int.lt_of_mul_lt_mul_left (by rw [Int.mul_one]; exact h4) (Int.le_of_lt hq)
 rcases (show k ≤ -1 ∨ k = 0 ∨ 1 ≤ k by omega) with b | b | b
 ·have := Int.mul_le_mul_of_nonneg_left b (show (0 : Int) ≤ T * 2 by omega)
  omega
 ·rw [b] at hk; rw [Int.mul_zero, Int.mul_zero] at hk; exact h0 hk
 ·have := Int.mul_le_mul_of_nonneg_left b (show (0 : Int) ≤ T * 2 by omega)
  omega
theorem shr_small (l : List Int) (v : Int) (hv : 1 ≤ v) (hv2 : v ≤ 33) (hl : ∀ x ∈ l, sigE x v = 0) (j : Nat) : -4294967296 ≤ (shrL l (wasN l)).getD j 0 ∧ (shrL l (wasN l)).getD j 0 ≤ 4294967296 := by
 by_cases hj : j < (shrL l (wasN l)).length
 ·have hm := getD_mem (shrL l (wasN l)) j hj
  obtain ⟨x, hx, e⟩ := List.mem_map.1 hm
  have hw := was_lt l v hv hl
  have hd := (dvB_iff l (wasN l)).1 (wasN_dvB l) x hx
  obtain ⟨V, rfl⟩ : ∃ V : Nat, v = V := ⟨v.toNat, by omega⟩
  have hf := fit_div x V (wasN l) (by omega) (hl x hx) hd
  obtain ⟨h1, h2, h3, h4⟩ := (sigE_iff _ _).1 hf
  rw [Int.toNat_natCast] at h3 h4
  have hp : (2 : Nat) ^ (V - wasN l - 1) ≤ 2 ^ 32 := Nat.pow_le_pow_right (by decide) (by omega)
  have e32 : (2 : Nat) ^ 32 = 4294967296 := by decide
  rw [pow_int (V - wasN l - 1)] at h3 h4
  rw [← e]
  show -4294967296 ≤ x / 2 ^ wasN l ∧ x / 2 ^ wasN l ≤ 4294967296
  generalize x / 2 ^ wasN l = y at *
  omega
 ·rw [List.getD_eq_getElem?_getD, List.getElem?_eq_none (by omega)]
  exact ⟨by decide, by decide⟩
theorem fx0_small (m : List Int) (hm : ∀ j, -4294967296 ≤ m.getD j 0 ∧ m.getD j 0 ≤ 4294967296) (i : Nat) : -137438953472 ≤ wrap64 (m.getD (0 + i) 0 - foreN (wF 0) 0 m (0 + i)) ∧ wrap64 (m.getD (0 + i) 0 - foreN (wF 0) 0 m (0 + i)) ≤ 137438953472 := by
 have h := hm (0 + i)
 have e : foreN (wF 0) 0 m (0 + i) = (0) / 1 := rfl
 rw [e]
 clear e
 generalize m.getD (0 + i) 0 = y at *
 clear hm
 have ey : wrap64 (y - (0) / 1) = y - (0) / 1 := wid _ (by omega)
 rw [ey]
 omega
theorem fx1_small (m : List Int) (hm : ∀ j, -4294967296 ≤ m.getD j 0 ∧ m.getD j 0 ≤ 4294967296) (i : Nat) : -137438953472 ≤ wrap64 (m.getD (1 + i) 0 - foreN (wF 1) 0 m (1 + i)) ∧ wrap64 (m.getD (1 + i) 0 - foreN (wF 1) 0 m (1 + i)) ≤ 137438953472 := by
 have h := hm (1 + i)
 have h0 := hm (1 + i - 1 - 0)
 have e : foreN (wF 1) 0 m (1 + i) = (wrap64 (0 + wrap64 ((1) * m.getD (1 + i - 1 - 0) 0))) / 1 := rfl
 rw [e]
 clear e
 generalize m.getD (1 + i) 0 = y at *
 generalize m.getD (1 + i - 1 - 0) 0 = x0 at *
 clear hm
 have p0 : wrap64 ((1) * x0) = (1) * x0 := wid _ (by omega)
 have a0 : wrap64 (0 + (1) * x0) = 0 + (1) * x0 := wid _ (by omega)
 rw [p0, a0]
 clear p0 a0
 have ey : wrap64 (y - (0 + (1) * x0) / 1) = y - (0 + (1) * x0) / 1 := wid _ (by omega)
 rw [ey]
 omega
theorem fx2_small (m : List Int) (hm : ∀ j, -4294967296 ≤ m.getD j 0 ∧ m.getD j 0 ≤ 4294967296) (i : Nat) : -137438953472 ≤ wrap64 (m.getD (2 + i) 0 - foreN (wF 2) 0 m (2 + i)) ∧ wrap64 (m.getD (2 + i) 0 - foreN (wF 2) 0 m (2 + i)) ≤ 137438953472 := by
 have h := hm (2 + i)
 have h0 := hm (2 + i - 1 - 0)
 have h1 := hm (2 + i - 1 - 1)
 have e : foreN (wF 2) 0 m (2 + i) = (wrap64 (wrap64 (0 + wrap64 ((2) * m.getD (2 + i - 1 - 0) 0)) + wrap64 ((-1) * m.getD (2 + i - 1 - 1) 0))) / 1 := rfl
 rw [e]
 clear e
 generalize m.getD (2 + i) 0 = y at *
 generalize m.getD (2 + i - 1 - 0) 0 = x0 at *
 generalize m.getD (2 + i - 1 - 1) 0 = x1 at *
 clear hm
 have p0 : wrap64 ((2) * x0) = (2) * x0 := wid _ (by omega)
 have a0 : wrap64 (0 + (2) * x0) = 0 + (2) * x0 := wid _ (by omega)
 have p1 : wrap64 ((-1) * x1) = (-1) * x1 := wid _ (by omega)
 have a1 : wrap64 (0 + (2) * x0 + (-1) * x1) = 0 + (2) * x0 + (-1) * x1 := wid _ (by omega)
 rw [p0, a0, p1, a1]
 clear p0 a0 p1 a1
 have ey : wrap64 (y - (0 + (2) * x0 + (-1) * x1) / 1) = y - (0 + (2) * x0 + (-1) * x1) / 1 := wid _ (by omega)
 rw [ey]
 omega
theorem fx3_small (m : List Int) (hm : ∀ j, -4294967296 ≤ m.getD j 0 ∧ m.getD j 0 ≤ 4294967296) (i : Nat) : -137438953472 ≤ wrap64 (m.getD (3 + i) 0 - foreN (wF 3) 0 m (3 + i)) ∧ wrap64 (m.getD (3 + i) 0 - foreN (wF 3) 0 m (3 + i)) ≤ 137438953472 := by
 have h := hm (3 + i)
 have h0 := hm (3 + i - 1 - 0)
 have h1 := hm (3 + i - 1 - 1)
 have h2 := hm (3 + i - 1 - 2)
 have e : foreN (wF 3) 0 m (3 + i) = (wrap64 (wrap64 (wrap64 (0 + wrap64 ((3) * m.getD (3 + i - 1 - 0) 0)) + wrap64 ((-3) * m.getD (3 + i - 1 - 1) 0)) + wrap64 ((1) * m.getD (3 + i - 1 - 2) 0))) / 1 := rfl
 rw [e]
 clear e
 generalize m.getD (3 + i) 0 = y at *
 generalize m.getD (3 + i - 1 - 0) 0 = x0 at *
 generalize m.getD (3 + i - 1 - 1) 0 = x1 at *
 generalize m.getD (3 + i - 1 - 2) 0 = x2 at *
 clear hm
 have p0 : wrap64 ((3) * x0) = (3) * x0 := wid _ (by omega)
 have a0 : wrap64 (0 + (3) * x0) = 0 + (3) * x0 := wid _ (by omega)
 have p1 : wrap64 ((-3) * x1) = (-3) * x1 := wid _ (by omega)
 have a1 : wrap64 (0 + (3) * x0 + (-3) * x1) = 0 + (3) * x0 + (-3) * x1 := wid _ (by omega)
 have p2 : wrap64 ((1) * x2) = (1) * x2 := wid _ (by omega)
 have a2 : wrap64 (0 + (3) * x0 + (-3) * x1 + (1) * x2) = 0 + (3) * x0 + (-3) * x1 + (1) * x2 := wid _ (by omega)
 rw [p0, a0, p1, a1, p2, a2]
 clear p0 a0 p1 a1 p2 a2
 have ey : wrap64 (y - (0 + (3) * x0 + (-3) * x1 + (1) * x2) / 1) = y - (0 + (3) * x0 + (-3) * x1 + (1) * x2) / 1 := wid _ (by omega)
 rw [ey]
 omega
theorem fx4_small (m : List Int) (hm : ∀ j, -4294967296 ≤ m.getD j 0 ∧ m.getD j 0 ≤ 4294967296) (i : Nat) : -137438953472 ≤ wrap64 (m.getD (4 + i) 0 - foreN (wF 4) 0 m (4 + i)) ∧ wrap64 (m.getD (4 + i) 0 - foreN (wF 4) 0 m (4 + i)) ≤ 137438953472 := by
 have h := hm (4 + i)
 have h0 := hm (4 + i - 1 - 0)
 have h1 := hm (4 + i - 1 - 1)
 have h2 := hm (4 + i - 1 - 2)
 have h3 := hm (4 + i - 1 - 3)
 have e : foreN (wF 4) 0 m (4 + i) = (wrap64 (wrap64 (wrap64 (wrap64 (0 + wrap64 ((4) * m.getD (4 + i - 1 - 0) 0)) + wrap64 ((-6) * m.getD (4 + i - 1 - 1) 0)) + wrap64 ((4) * m.getD (4 + i - 1 - 2) 0)) + wrap64 ((-1) * m.getD (4 + i - 1 - 3) 0))) / 1 := rfl
 rw [e]
 clear e
 generalize m.getD (4 + i) 0 = y at *
 generalize m.getD (4 + i - 1 - 0) 0 = x0 at *
 generalize m.getD (4 + i - 1 - 1) 0 = x1 at *
 generalize m.getD (4 + i - 1 - 2) 0 = x2 at *
 generalize m.getD (4 + i - 1 - 3) 0 = x3 at *
 clear hm
 have p0 : wrap64 ((4) * x0) = (4) * x0 := wid _ (by omega)
 have a0 : wrap64 (0 + (4) * x0) = 0 + (4) * x0 := wid _ (by omega)
 have p1 : wrap64 ((-6) * x1) = (-6) * x1 := wid _ (by omega)
 have a1 : wrap64 (0 + (4) * x0 + (-6) * x1) = 0 + (4) * x0 + (-6) * x1 := wid _ (by omega)
 have p2 : wrap64 ((4) * x2) = (4) * x2 := wid _ (by omega)
 have a2 : wrap64 (0 + (4) * x0 + (-6) * x1 + (4) * x2) = 0 + (4) * x0 + (-6) * x1 + (4) * x2 := wid _ (by omega)
 have p3 : wrap64 ((-1) * x3) = (-1) * x3 := wid _ (by omega)
 have a3 : wrap64 (0 + (4) * x0 + (-6) * x1 + (4) * x2 + (-1) * x3) = 0 + (4) * x0 + (-6) * x1 + (4) * x2 + (-1) * x3 := wid _ (by omega)
 rw [p0, a0, p1, a1, p2, a2, p3, a3]
 clear p0 a0 p1 a1 p2 a2 p3 a3
 have ey : wrap64 (y - (0 + (4) * x0 + (-6) * x1 + (4) * x2 + (-1) * x3) / 1) = y - (0 + (4) * x0 + (-6) * x1 + (4) * x2 + (-1) * x3) / 1 := wid _ (by omega)
 rw [ey]
 omega
theorem lp0_small (m : List Int) (hm : ∀ j, -4294967296 ≤ m.getD j 0 ∧ m.getD j 0 ≤ 4294967296) (i : Nat) : -137438953472 ≤ wrap64 (m.getD (1 + i) 0 - foreN [31] 5 m (1 + i)) ∧ wrap64 (m.getD (1 + i) 0 - foreN [31] 5 m (1 + i)) ≤ 137438953472 := by
 have h := hm (1 + i)
 have h0 := hm (1 + i - 1 - 0)
 have e : foreN [31] 5 m (1 + i) = (wrap64 (0 + wrap64 ((31) * m.getD (1 + i - 1 - 0) 0))) / 32 := rfl
 rw [e]
 clear e
 generalize m.getD (1 + i) 0 = y at *
 generalize m.getD (1 + i - 1 - 0) 0 = x0 at *
 clear hm
 have p0 : wrap64 ((31) * x0) = (31) * x0 := wid _ (by omega)
 have a0 : wrap64 (0 + (31) * x0) = 0 + (31) * x0 := wid _ (by omega)
 rw [p0, a0]
 clear p0 a0
 have ey : wrap64 (y - (0 + (31) * x0) / 32) = y - (0 + (31) * x0) / 32 := wid _ (by omega)
 rw [ey]
 omega
theorem lp1_small (m : List Int) (hm : ∀ j, -4294967296 ≤ m.getD j 0 ∧ m.getD j 0 ≤ 4294967296) (i : Nat) : -137438953472 ≤ wrap64 (m.getD (2 + i) 0 - foreN [60, -29] 5 m (2 + i)) ∧ wrap64 (m.getD (2 + i) 0 - foreN [60, -29] 5 m (2 + i)) ≤ 137438953472 := by
 have h := hm (2 + i)
 have h0 := hm (2 + i - 1 - 0)
 have h1 := hm (2 + i - 1 - 1)
 have e : foreN [60, -29] 5 m (2 + i) = (wrap64 (wrap64 (0 + wrap64 ((60) * m.getD (2 + i - 1 - 0) 0)) + wrap64 ((-29) * m.getD (2 + i - 1 - 1) 0))) / 32 := rfl
 rw [e]
 clear e
 generalize m.getD (2 + i) 0 = y at *
 generalize m.getD (2 + i - 1 - 0) 0 = x0 at *
 generalize m.getD (2 + i - 1 - 1) 0 = x1 at *
 clear hm
 have p0 : wrap64 ((60) * x0) = (60) * x0 := wid _ (by omega)
 have a0 : wrap64 (0 + (60) * x0) = 0 + (60) * x0 := wid _ (by omega)
 have p1 : wrap64 ((-29) * x1) = (-29) * x1 := wid _ (by omega)
 have a1 : wrap64 (0 + (60) * x0 + (-29) * x1) = 0 + (60) * x0 + (-29) * x1 := wid _ (by omega)
 rw [p0, a0, p1, a1]
 clear p0 a0 p1 a1
 have ey : wrap64 (y - (0 + (60) * x0 + (-29) * x1) / 32) = y - (0 + (60) * x0 + (-29) * x1) / 32 := wid _ (by omega)
 rw [ey]
 omega
theorem lp2_small (m : List Int) (hm : ∀ j, -4294967296 ≤ m.getD j 0 ∧ m.getD j 0 ≤ 4294967296) (i : Nat) : -137438953472 ≤ wrap64 (m.getD (2 + i) 0 - foreN [63, -31] 5 m (2 + i)) ∧ wrap64 (m.getD (2 + i) 0 - foreN [63, -31] 5 m (2 + i)) ≤ 137438953472 := by
 have h := hm (2 + i)
 have h0 := hm (2 + i - 1 - 0)
 have h1 := hm (2 + i - 1 - 1)
 have e : foreN [63, -31] 5 m (2 + i) = (wrap64 (wrap64 (0 + wrap64 ((63) * m.getD (2 + i - 1 - 0) 0)) + wrap64 ((-31) * m.getD (2 + i - 1 - 1) 0))) / 32 := rfl
 rw [e]
 clear e
 generalize m.getD (2 + i) 0 = y at *
 generalize m.getD (2 + i - 1 - 0) 0 = x0 at *
 generalize m.getD (2 + i - 1 - 1) 0 = x1 at *
 clear hm
 have p0 : wrap64 ((63) * x0) = (63) * x0 := wid _ (by omega)
 have a0 : wrap64 (0 + (63) * x0) = 0 + (63) * x0 := wid _ (by omega)
 have p1 : wrap64 ((-31) * x1) = (-31) * x1 := wid _ (by omega)
 have a1 : wrap64 (0 + (63) * x0 + (-31) * x1) = 0 + (63) * x0 + (-31) * x1 := wid _ (by omega)
 rw [p0, a0, p1, a1]
 clear p0 a0 p1 a1
 have ey : wrap64 (y - (0 + (63) * x0 + (-31) * x1) / 32) = y - (0 + (63) * x0 + (-31) * x1) / 32 := wid _ (by omega)
 rw [ey]
 omega
theorem fold14 (x : Int) (h : -137438953472 ≤ x ∧ x ≤ 137438953472) : foldN x / 2 ^ 14 ≤ 16777216 := by
 have e : (2 : Nat) ^ 14 = 16384 := by decide
 rw [e]
 rcases (show x < 0 ∨ 0 ≤ x by omega) with h1 | h1
 ·have := foldN_neg x h1; omega
 ·have := foldN_pos x h1; omega
theorem left_mem (C : List Int) (sh : Nat) (m : List Int) (n : Nat) (P : Int → Prop) (h : ∀ i, P (wrap64 (m.getD (C.length + i) 0 - foreN C sh m (C.length + i)))) : ∀ x ∈ leftN C sh m n, P x := fun x hx => by
 obtain ⟨i, hi, e⟩ := List.mem_iff_getElem.1 hx
 have hi2 : i < n := by rwa [leftN_len] at hi
 have h2 := leftN_at C sh m n i hi2
 rw [List.getD_eq_getElem?_getD, List.getElem?_eq_getElem hi] at h2
 have h3 : x = wrap64 (m.getD (C.length + i) 0 - foreN C sh m (C.length + i)) := by rw [← e]; exact h2
 rw [h3]; exact h i
theorem tried_res (w : Int) (q : Sb) (ht : triedS w q) (hk : q.k = 2 ∨ q.k = 3) (m : List Int) (hm : ∀ j, -4294967296 ≤ m.getD j 0 ∧ m.getD j 0 ≤ 4294967296) (hn : m.length ≤ 65535) : ShY (resN q m) ∧ (resN q m).length = m.length - q.o.toNat := by
 have fin : ∀ (C : List Int) (sh : Nat) (k : Nat), (∀ i, -137438953472 ≤ wrap64 (m.getD (C.length + i) 0 - foreN C sh m (C.length + i)) ∧ wrap64 (m.getD (C.length + i) 0 - foreN C sh m (C.length + i)) ≤ 137438953472) → ShY (leftN C sh m (m.length - k)) ∧ (leftN C sh m (m.length - k)).length = m.length - k := fun C sh k h => ⟨⟨fun x hx => fold14 x (left_mem C sh m _ (fun x => -137438953472 ≤ x ∧ x ≤ 137438953472) h x hx), by rw [leftN_len]; omega⟩, leftN_len _ _ _ _⟩
 rcases ht with rfl | rfl | ⟨o, ho, rfl⟩ | ⟨C, hC, rfl⟩
 ·rcases hk with h | h <;> cases h
 ·rcases hk with h | h <;> cases h
 ·unfold resN fxS
  rw [if_pos rfl, Int.toNat_natCast]
  rcases (show o = 0 ∨ o = 1 ∨ o = 2 ∨ o = 3 ∨ o = 4 by omega) with rfl | rfl | rfl | rfl | rfl
  ·exact fin (wF 0) 0 0 (fx0_small m hm)
  ·exact fin (wF 1) 0 1 (fx1_small m hm)
  ·exact fin (wF 2) 0 2 (fx2_small m hm)
  ·exact fin (wF 3) 0 3 (fx3_small m hm)
  ·exact fin (wF 4) 0 4 (fx4_small m hm)
 ·unfold resN lpS
  rw [if_neg (by decide : ¬ (3 : Int) = 2), Int.toNat_natCast]
  show ShY (leftN C 5 m (m.length - C.length)) ∧ (leftN C 5 m (m.length - C.length)).length = m.length - C.length
  rcases List.mem_cons.1 hC with rfl | hC
  ·exact fin [31] 5 1 (lp0_small m hm)
  rcases List.mem_cons.1 hC with rfl | hC
  ·exact fin [60, -29] 5 2 (lp1_small m hm)
  rcases List.mem_cons.1 hC with rfl | hC
  ·exact fin [63, -31] 5 2 (lp2_small m hm)
  cases hC
theorem tried_o (w : Int) (q : Sb) (ht : triedS w q) : 0 ≤ q.o ∧ q.o ≤ 4 := by
 rcases ht with rfl | rfl | ⟨o, ho, rfl⟩ | ⟨C, hC, rfl⟩
 ·show (0 : Int) ≤ 0 ∧ (0 : Int) ≤ 4; decide
 ·show (0 : Int) ≤ 0 ∧ (0 : Int) ≤ 4; decide
 ·show 0 ≤ (o : Int) ∧ (o : Int) ≤ 4; omega
 ·show 0 ≤ (C.length : Int) ∧ (C.length : Int) ≤ 4
  rcases List.mem_cons.1 hC with rfl | hC
  ·decide
  rcases List.mem_cons.1 hC with rfl | hC
  ·decide
  rcases List.mem_cons.1 hC with rfl | hC
  ·decide
  cases hC
theorem brN_ok (b r : Nat) (res : List Int) (hb : 1 ≤ b) (hb2 : b ≤ 65535) (hr : r ≤ 32) (hrb : r ≤ b) (hs : ShY res) (hn : res.length = b - r) : chkOk (brN b r res) b r ∧ encR (brN b r res) b r res = true ∧ (encB (brN b r res) b r res).length = ordS res b r (bestK (ordS res b r) (fnO b r)) := by
 have hC := fnO_cut b r hb hb2 hr hrb
 have h4 := (fnO_best b r hb hb2 hr hrb).1
 have hk := bestK_le (ordS res b r) (fnO b r)
 have hC2 := hC.to (bestK (ordS res b r) (fnO b r)) hk
 have hR := best_encR hC2 res hs hn
 have hL := best_encL hC2 res hs hn (by omega)
 refine ⟨(best_rok hC2 res).chk, hR, ?_⟩
 rw [← hL]
 unfold encL brN
 rw [hR]
 rfl
end Go.Proofs.YthgpleelpeacjaaGreatDoor
