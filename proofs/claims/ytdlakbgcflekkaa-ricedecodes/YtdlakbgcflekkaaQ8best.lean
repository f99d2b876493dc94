/- Own text: the walk of the program's Best. -/
import Derived.Test.YtdlakbgcflekkaaQ8cheap
namespace Go.Proofs.Ytdlakbgcflekkaa
open Go.RowKit
set_option linter.unusedSimpArgs false
set_option linter.unusedVariables false

def ordF (l : List Int) (b r o : Nat) (i k : Nat) : Nat := costN (partN l b o r i) k
def ordS (l : List Int) (b r o : Nat) : Nat := chS (ordF l b r o) (2 ^ o)
def bestRc (l : List Int) (b r o : Nat) : Rc := ⟨0, o, chP (ordF l b r o) (2 ^ o), chE (2 ^ o)⟩
theorem fr_merge {b o r : Nat} (h : Cut b (o + 1) r) (i : Nat) : frN b o r i = frN b (o + 1) r (2 * i) := by
  unfold frN; rw [h.half, Nat.mul_comm 2 i, Nat.mul_assoc]
theorem part_merge (l : List Int) {b o r : Nat} (h : Cut b (o + 1) r) (i : Nat) : partN l b o r i = partN l b (o + 1) r (2 * i) ++ partN l b (o + 1) r (2 * i + 1) := by
  unfold partN
  rw [fr_merge h i, fr_merge h (i + 1), show 2 * (i + 1) = 2 * i + 1 + 1 by omega]
  have h1 := frN_mono b (o + 1) r (2 * i)
  have h2 := frN_mono b (o + 1) r (2 * i + 1)
  generalize frN b (o + 1) r (2 * i) = x at *
  generalize frN b (o + 1) r (2 * i + 1) = y at *
  generalize frN b (o + 1) r (2 * i + 1 + 1) = z at *
  rw [show z - x = (y - x) + (z - y) by omega, List.take_add, List.drop_drop, show x + (y - x) = y by omega]
theorem ordF_merge (l : List Int) {b o r : Nat} (h : Cut b (o + 1) r) (i k : Nat) : ordF l b r (o + 1) (2 * i) k + ordF l b r (o + 1) (2 * i + 1) k = ordF l b r o i k := by
  unfold ordF; rw [part_merge l h i, costN_append]
theorem ordF_le (l : List Int) (hs : ShX l) (b r o i k : Nat) (hk : k ≤ 30) : ordF l b r o i k ≤ 40155000 := (hs.part b o r i).cost k hk
def capF (f : Nat → Nat → Nat) (i k : Nat) : Nat := if k ≤ 30 then f i k else 0
theorem bestK_congr (f g : Nat → Nat) (n : Nat) (h : ∀ k, k ≤ n → f k = g k) : bestK f n = bestK g n := by
  induction n with
  | zero => rfl
  | succ n ih =>
    have e := ih (fun k hk => h k (by omega))
    have hl := bestK_le g n
    unfold bestK
    rw [e, h (n + 1) (by omega), h (bestK g n) (by omega)]
theorem chP_congr (f g : Nat → Nat → Nat) (n : Nat) (h : ∀ i k, k ≤ 14 → f i k = g i k) : chP f n = chP g n := by
  unfold chP
  apply List.map_congr_left
  intro i _
  rw [bestK_congr (f i) (g i) 14 (fun k hk => h i k hk)]
theorem chS_congr (f g : Nat → Nat → Nat) (n : Nat) (h : ∀ i k, k ≤ 14 → f i k = g i k) : chS f n = chS g n := by
  induction n with
  | zero => rfl
  | succ n ih =>
    have e := bestK_congr (f n) (g n) 14 (fun k hk => h n k hk)
    have hl := bestK_le (g n) 14
    unfold chS
    rw [ih, e, h n (bestK (g n) 14) (by omega)]
theorem cap_eq (f : Nat → Nat → Nat) (i k : Nat) (hk : k ≤ 14) : capF f i k = f i k := by unfold capF; rw [if_pos (by omega)]
/-- the least place of the least, from above. -/
def dnK (f : Nat → Nat) (q : Nat) : Nat → Nat
  | 0 => q
  | n + 1 => if f (q - (n + 1)) ≤ f (dnK f q n) then q - (n + 1) else dnK f q n
theorem dnK_in (f : Nat → Nat) (q n : Nat) (hn : n ≤ q) : q - n ≤ dnK f q n ∧ dnK f q n ≤ q ∧ (∀ j, q - n ≤ j → j ≤ q → f (dnK f q n) ≤ f j) ∧ (∀ j, q - n ≤ j → j < dnK f q n → f (dnK f q n) < f j) := by
  induction n with
  | zero =>
    refine ⟨by unfold dnK; omega, by unfold dnK; omega, fun j h1 h2 => ?_, fun j h1 h2 => ?_⟩
    · unfold dnK; rw [show j = q by omega]; exact Nat.le_refl _
    · unfold dnK at h2; omega
  | succ n ih =>
    obtain ⟨i1, i2, i3, i4⟩ := ih (by omega)
    unfold dnK
    split
    · rename_i hle
      refine ⟨Nat.le_refl _, by omega, fun j h1 h2 => ?_, fun j h1 h2 => by omega⟩
      by_cases e : j = q - (n + 1)
      · rw [e]; exact Nat.le_refl _
      · exact Nat.le_trans hle (i3 j (by omega) h2)
    · rename_i hle
      refine ⟨by omega, i2, fun j h1 h2 => ?_, fun j h1 h2 => ?_⟩
      · by_cases e : j = q - (n + 1)
        · rw [e]; omega
        · exact i3 j (by omega) h2
      · by_cases e : j = q - (n + 1)
        · rw [e]; omega
        · exact i4 j (by omega) h2
theorem bestK_in (f : Nat → Nat) (n : Nat) : (∀ j, j ≤ n → f (bestK f n) ≤ f j) ∧ (∀ j, j < bestK f n → f (bestK f n) < f j) := by
  induction n with
  | zero => exact ⟨fun j h => by rw [show j = 0 by omega]; exact Nat.le_refl _, fun j h => absurd h (Nat.not_lt_zero _)⟩
  | succ n ih =>
    obtain ⟨i1, i2⟩ := ih
    have hl := bestK_le f n
    unfold bestK
    split
    · rename_i hlt
      refine ⟨fun j h => ?_, fun j h => ?_⟩
      · by_cases e : j = n + 1
        · rw [e]; exact Nat.le_refl _
        · exact Nat.le_of_lt (Nat.lt_of_lt_of_le hlt (i1 j (by omega)))
      · exact Nat.lt_of_lt_of_le hlt (i1 j (by omega))
    · rename_i hlt
      refine ⟨fun j h => ?_, i2⟩
      by_cases e : j = n + 1
      · rw [e]; omega
      · exact i1 j (by omega)
theorem dn_best (f : Nat → Nat) (q : Nat) : dnK f q q = bestK f q := by
  obtain ⟨_, a2, a3, a4⟩ := dnK_in f q q (Nat.le_refl _)
  obtain ⟨b1, b2⟩ := bestK_in f q
  have hl := bestK_le f q
  rcases Nat.lt_trichotomy (dnK f q q) (bestK f q) with h | h | h
  · have := b2 _ h; have := a3 (bestK f q) (by omega) hl; omega
  · exact h
  · have := a4 _ (by omega) h; have := b1 (dnK f q q) a2; omega

structure BS (w : World) (l : List Int) (b r g k p c gp ge : Nat) (wx : World) : Prop where
  px : PxB wx g (2 ^ p) (capF (ordF l b r p))
  bk : wx.heap[k]? = some (.cells #[.int .i64 0, .int .i64 (c : Int), .slice (some ⟨gp, 0, none⟩) (2 ^ c) (2 ^ c), .slice (some ⟨ge, 0, none⟩) (2 ^ c) (2 ^ c)] 24 (0, 0))
  bp : IntsBlk wx gp (bestRc l b r c).P
  be : IntsBlk wx ge (bestRc l b r c).E
  rb : wx.heap[w.heap.size]? = some (.cells #[.int .i64 0, .int .i64 0, .slice none 0 0, .slice none 0 0] 24 (0, 0))
  below : Below w.heap.size w wx
  gpk : gp ≠ k
  gek : ge ≠ k
  gpg : gp ≠ g
  geg : ge ≠ g
  gk : g ≠ k
  nk : w.heap.size < k
  ng : w.heap.size < g
  np : w.heap.size < gp
  ne : w.heap.size < ge
section
variable {w wx w' : World} {l : List Int} {b r g k p c gp ge p' : Nat}
theorem BS.low (h : BS w l b r g k p c gp ge wx) (hb : Below wx.heap.size wx w') : BS w l b r g k p c gp ge w' :=
  ⟨h.px.below hb, by rw [hb.block _ (lt_of_block h.bk)]; exact h.bk, h.bp.below hb, h.be.below hb, by rw [hb.block _ (lt_of_block h.rb)]; exact h.rb, h.below.trans (hb.mono h.below.size), h.gpk, h.gek, h.gpg, h.geg, h.gk, h.nk, h.ng, h.np, h.ne⟩
theorem BS.merge (h : BS w l b r g k p c gp ge wx) (hp : PxB w' g (2 ^ p') (capF (ordF l b r p'))) (hS : Stays (fun x => x = g) wx w') : BS w l b r g k p' c gp ge w' := by
  have h1 := h.ng
  refine ⟨hp, by rw [hS.block _ (lt_of_block h.bk) (fun e => h.gk e.symm)]; exact h.bk, h.bp.stays hS (fun e => h.gpg e), h.be.stays hS (fun e => h.geg e), by rw [hS.block _ (lt_of_block h.rb) (fun e => by have e' : w.heap.size = g := e; omega)]; exact h.rb, ⟨hS.os.trans h.below.os, hS.tape.trans h.below.tape, hS.output.trans h.below.output, Nat.le_trans h.below.size hS.size, fun i hi => ?_⟩, h.gpk, h.gek, h.gpg, h.geg, h.gk, h.nk, h.ng, h.np, h.ne⟩
  rw [hS.block i (by have := h.below.size; omega) (fun e => by have e' : i = g := e; omega)]
  exact h.below.block i hi
theorem BS.cells (h : BS w l b r g k p c gp ge wx) : wx.cell? ⟨k, 0, none⟩ = some (.int .i64 0) ∧ wx.cell? ⟨k, 1, none⟩ = some (.int .i64 (c : Int)) ∧ wx.cell? ⟨k, 2, none⟩ = some (.slice (some ⟨gp, 0, none⟩) (2 ^ c) (2 ^ c)) ∧ wx.cell? ⟨k, 3, none⟩ = some (.slice (some ⟨ge, 0, none⟩) (2 ^ c) (2 ^ c)) := by
  refine ⟨?_, ?_, ?_, ?_⟩ <;> (rw [cell_of_row _ _ _ _ _ _ h.bk]; rfl)
theorem BS.frozen (h : BS w l b r g k p c gp ge wx) (o : Nat) : wx.frozen? ⟨k, o, none⟩ = false := by simp [World.frozen?, h.bk]
end
set_option maxRecDepth 20000 in
set_option maxHeartbeats 3200000 in
theorem best_cut (b r : Int) (hall : ∀ o' : Nat, o' ≤ 4 → ¬ cutOk b r o') (v : Value) (w : World) :
    Calls Try.prog 26 #[.int .i64 b, .int .i64 r, v] w fun en w' => en = .returned (.tuple #[zRice, .int .i64 (-1)]) ∧ Below w.heap.size w w' := by
  have KF : Hid (∀ wx, Calls Try.prog 50 #[.int .i64 b, .int .i64 r] wx fun en w' => en = .returned (.tuple #[cutV 0 0 0, .int .i64 0]) ∧ Below wx.heap.size wx w') := fun wx => finest_no b r hall wx
  clear hall
  have HB0 : Hid (Below w.heap.size w (w.alloc (.cells #[.int .i64 0, .int .i64 0, .slice none 0 0, .slice none 0 0] 24))) := (Below.refl _ _).alloc (Nat.le_refl _) _
  have HX0 : Hid ((w.alloc (.cells #[.int .i64 0, .int .i64 0, .slice none 0 0, .slice none 0 0] 24)).heap[w.heap.size]? = some (.cells #[.int .i64 0, .int .i64 0, .slice none 0 0, .slice none 0 0] 24 (0, 0))) := heap_alloc_new _ _
  go_enter Try.func26, Try.ntmps26
  go_wp2_with fail
  generalize hwa : w.alloc _ = wa at *
  clear hwa
  refine (KF.out wa).mono ?_
  rintro e w2 ⟨rfl, hb2⟩
  have HB2 : Hid (Below w.heap.size w w2) := HB0.out.trans (hb2.mono HB0.out.size)
  have HX2 : Hid (w2.heap[w.heap.size]? = some (.cells #[.int .i64 0, .int .i64 0, .slice none 0 0, .slice none 0 0] 24 (0, 0))) := by show _ = _; rw [hb2.block _ (lt_of_block HX0.out)]; exact HX0.out
  clear hb2 HB0 HX0
  have HB3 : Hid (Below w2.heap.size w2 (w2.alloc (.cells #[.int .i64 0, .int .i64 0, .int .i64 0] 66))) := (Below.refl _ _).alloc (Nat.le_refl _) _
  have HX3 : Hid ((w2.alloc (.cells #[.int .i64 0, .int .i64 0, .int .i64 0] 66)).heap[w.heap.size]? = some (.cells #[.int .i64 0, .int .i64 0, .slice none 0 0, .slice none 0 0] 24 (0, 0))) := by show _ = _; rw [HB3.out.block _ (lt_of_block HX2.out)]; exact HX2.out
  have HB4 : Hid (Below w.heap.size w (w2.alloc (.cells #[.int .i64 0, .int .i64 0, .int .i64 0] 66))) := HB2.out.trans (HB3.out.mono HB2.out.size)
  have u0 : (w2.alloc (.cells #[.int .i64 0, .int .i64 0, .int .i64 0] 66)).cell? ⟨w.heap.size, 0, none⟩ = some (.int .i64 0) := by rw [cell_of_row _ _ _ _ _ _ HX3.out]; rfl
  have fu0 : (w2.alloc (.cells #[.int .i64 0, .int .i64 0, .int .i64 0] 66)).frozen? ⟨w.heap.size, 0, none⟩ = false := by simp [World.frozen?, HX3.out]
  have u1 : (w2.alloc (.cells #[.int .i64 0, .int .i64 0, .int .i64 0] 66)).cell? ⟨w.heap.size, 1, none⟩ = some (.int .i64 0) := by rw [cell_of_row _ _ _ _ _ _ HX3.out]; rfl
  have fu1 : (w2.alloc (.cells #[.int .i64 0, .int .i64 0, .int .i64 0] 66)).frozen? ⟨w.heap.size, 1, none⟩ = false := by simp [World.frozen?, HX3.out]
  have u2 : (w2.alloc (.cells #[.int .i64 0, .int .i64 0, .int .i64 0] 66)).cell? ⟨w.heap.size, 2, none⟩ = some (.slice none 0 0) := by rw [cell_of_row _ _ _ _ _ _ HX3.out]; rfl
  have fu2 : (w2.alloc (.cells #[.int .i64 0, .int .i64 0, .int .i64 0] 66)).frozen? ⟨w.heap.size, 2, none⟩ = false := by simp [World.frozen?, HX3.out]
  have u3 : (w2.alloc (.cells #[.int .i64 0, .int .i64 0, .int .i64 0] 66)).cell? ⟨w.heap.size, 3, none⟩ = some (.slice none 0 0) := by rw [cell_of_row _ _ _ _ _ _ HX3.out]; rfl
  have fu3 : (w2.alloc (.cells #[.int .i64 0, .int .i64 0, .int .i64 0] 66)).frozen? ⟨w.heap.size, 3, none⟩ = false := by simp [World.frozen?, HX3.out]

  go_wp2_with fail
  generalize hwf : World.setCell _ _ _ = wf
  have hrow : wf.heap[w.heap.size]? = some (.cells #[.int .i64 0, .int .i64 0, .slice none 0 0, .slice none 0 0] 24 (0, 0)) := by rw [← hwf]; exact set4_a _ _ _ _ _ HX3.out
  have hbel : Below w.heap.size w wf := by rw [← hwf]; exact (((HB4.out.setCell (Nat.le_refl _) _).setCell (Nat.le_refl _) _).setCell (Nat.le_refl _) _).setCell (Nat.le_refl _) _
  refine bodyPost_ret (v := .tuple #[.agg #[.int .i64 0, .int .i64 0, .slice none 0 0, .slice none 0 0], .int .i64 (-1)]) ?_ rfl ⟨rfl, hbel⟩
  rw [results_two rfl]
  have hld := run_loadVar_row (P := Try.prog) (wf) (w.heap.size) 24 24 #[.int .i64 0, .int .i64 0, .slice none 0 0, .slice none 0 0] (0, 0) _ hrow Try.underlying24 rfl info_Rice
  simp [asAddr, Result.andThen, hld]
set_option maxRecDepth 20000 in
set_option maxHeartbeats 3200000 in
theorem best_len (b o r : Nat) (hC : Cut b o r) (ho4 : o ≤ 4) (hall : ∀ o' : Nat, o < o' → o' ≤ 4 → ¬ cutOk b r o') (l : List Int) (hs : ShX l) (lo : Option Addr) (cap : Nat) (hc : l.length ≤ cap) (h0 : lo = none → cap = 0) (w : World) (hl : IntsAt w lo l) (hn : ¬ l.length = b - r) :
    Calls Try.prog 26 #[.int .i64 (b : Int), .int .i64 (r : Int), .slice lo l.length cap] w fun en w' => en = .returned (.tuple #[zRice, .int .i64 (-1)]) ∧ Below w.heap.size w w' := by
  have KF : Hid (∀ wx, Calls Try.prog 50 #[.int .i64 (b : Int), .int .i64 (r : Int)] wx fun en w' => en = .returned (.tuple #[cutV ((2 ^ o : Nat) : Int) ((b / 2 ^ o : Nat) : Int) (r : Int), .int .i64 (o : Int)]) ∧ Below wx.heap.size wx w') := fun wx => finest_yes b o r hC ho4 hall wx
  have hp := pow15 o hC.o15
  have hdv := hC.dv
  have hr2 := hC.r2
  have hb2 := hC.b2
  have hrb := hC.rb
  have hd : b / 2 ^ o ≤ 65535 := by have := Nat.div_le_self b (2 ^ o); omega
  have hl5 := hs.2
  have KN : Hid (∀ wx, Calls Try.prog 43 #[cutV ((2 ^ o : Nat) : Int) ((b / 2 ^ o : Nat) : Int) (r : Int)] wx fun e w' => e = .returned (.int .i64 ((b - r : Nat) : Int)) ∧ Below wx.heap.size wx w') := fun wx => by
    have hh := count_spec (2 ^ o) (b / 2 ^ o) r (by omega) hr2 hp.2 hd wx
    rw [hdv] at hh
    refine hh.mono ?_
    rintro e w' ⟨rfl, hb⟩
    refine ⟨?_, hb⟩
    rw [show ((b - r : Nat) : Int) = (b : Int) - (r : Int) by omega]
  have hbn : ((l.length : Int) != ((b - r : Nat) : Int)) = true := by rw [bne_iff_ne]; omega
  clear hC hall hl hs hdv
  generalize hNN : 2 ^ o = N at *
  generalize b / N = d at *
  generalize b - r = br at *
  clear hNN
  have hn1 := hp.1
  have hNb : ((N : Int) == 0) = false := by rw [beq_eq_false_iff_ne]; omega
  have HB0 : Hid (Below w.heap.size w (w.alloc (.cells #[.int .i64 0, .int .i64 0, .slice none 0 0, .slice none 0 0] 24))) := (Below.refl _ _).alloc (Nat.le_refl _) _
  have HX0 : Hid ((w.alloc (.cells #[.int .i64 0, .int .i64 0, .slice none 0 0, .slice none 0 0] 24)).heap[w.heap.size]? = some (.cells #[.int .i64 0, .int .i64 0, .slice none 0 0, .slice none 0 0] 24 (0, 0))) := heap_alloc_new _ _
  go_enter Try.func26, Try.ntmps26
  go_wp2_with fail
  generalize hwa : w.alloc _ = wa at *
  clear hwa
  refine (KF.out wa).mono ?_
  rintro e w2 ⟨rfl, hb2⟩
  have HB2 : Hid (Below w.heap.size w w2) := HB0.out.trans (hb2.mono HB0.out.size)
  have HX2 : Hid (w2.heap[w.heap.size]? = some (.cells #[.int .i64 0, .int .i64 0, .slice none 0 0, .slice none 0 0] 24 (0, 0))) := by show _ = _; rw [hb2.block _ (lt_of_block HX0.out)]; exact HX0.out
  clear hb2 HB0 HX0
  have HB3 : Hid (Below w2.heap.size w2 (w2.alloc (.cells #[.int .i64 (N : Int), .int .i64 (d : Int), .int .i64 (r : Int)] 66))) := (Below.refl _ _).alloc (Nat.le_refl _) _
  have HX3 : Hid ((w2.alloc (.cells #[.int .i64 (N : Int), .int .i64 (d : Int), .int .i64 (r : Int)] 66)).heap[w.heap.size]? = some (.cells #[.int .i64 0, .int .i64 0, .slice none 0 0, .slice none 0 0] 24 (0, 0))) := by show _ = _; rw [HB3.out.block _ (lt_of_block HX2.out)]; exact HX2.out
  have HB4 : Hid (Below w.heap.size w (w2.alloc (.cells #[.int .i64 (N : Int), .int .i64 (d : Int), .int .i64 (r : Int)] 66))) := HB2.out.trans (HB3.out.mono HB2.out.size)

  go_wp2_with fail
  generalize hw3 : w2.alloc _ = w3 at *
  clear hw3
  refine (KN.out w3).mono ?_
  rintro e w4 ⟨rfl, hb4⟩
  have HX4 : Hid (w4.heap[w.heap.size]? = some (.cells #[.int .i64 0, .int .i64 0, .slice none 0 0, .slice none 0 0] 24 (0, 0))) := by show _ = _; rw [hb4.block _ (lt_of_block HX3.out)]; exact HX3.out
  have HB5 : Hid (Below w.heap.size w w4) := HB4.out.trans (hb4.mono HB4.out.size)
  clear hb4
  have u0 : w4.cell? ⟨w.heap.size, 0, none⟩ = some (.int .i64 0) := by rw [cell_of_row _ _ _ _ _ _ HX4.out]; rfl
  have fu0 : w4.frozen? ⟨w.heap.size, 0, none⟩ = false := by simp [World.frozen?, HX4.out]
  have u1 : w4.cell? ⟨w.heap.size, 1, none⟩ = some (.int .i64 0) := by rw [cell_of_row _ _ _ _ _ _ HX4.out]; rfl
  have fu1 : w4.frozen? ⟨w.heap.size, 1, none⟩ = false := by simp [World.frozen?, HX4.out]
  have u2 : w4.cell? ⟨w.heap.size, 2, none⟩ = some (.slice none 0 0) := by rw [cell_of_row _ _ _ _ _ _ HX4.out]; rfl
  have fu2 : w4.frozen? ⟨w.heap.size, 2, none⟩ = false := by simp [World.frozen?, HX4.out]
  have u3 : w4.cell? ⟨w.heap.size, 3, none⟩ = some (.slice none 0 0) := by rw [cell_of_row _ _ _ _ _ _ HX4.out]; rfl
  have fu3 : w4.frozen? ⟨w.heap.size, 3, none⟩ = false := by simp [World.frozen?, HX4.out]

  go_wp2_with fail
  generalize hwf : World.setCell _ _ _ = wf
  have hrow : wf.heap[w.heap.size]? = some (.cells #[.int .i64 0, .int .i64 0, .slice none 0 0, .slice none 0 0] 24 (0, 0)) := by rw [← hwf]; exact set4_a _ _ _ _ _ HX4.out
  have hbel : Below w.heap.size w wf := by rw [← hwf]; exact (((HB5.out.setCell (Nat.le_refl _) _).setCell (Nat.le_refl _) _).setCell (Nat.le_refl _) _).setCell (Nat.le_refl _) _
  refine bodyPost_ret (v := .tuple #[.agg #[.int .i64 0, .int .i64 0, .slice none 0 0, .slice none 0 0], .int .i64 (-1)]) ?_ rfl ⟨rfl, hbel⟩
  rw [results_two rfl]
  have hld := run_loadVar_row (P := Try.prog) (wf) (w.heap.size) 24 24 #[.int .i64 0, .int .i64 0, .slice none 0 0, .slice none 0 0] (0, 0) _ hrow Try.underlying24 rfl info_Rice
  simp [asAddr, Result.andThen, hld]
set_option maxRecDepth 20000 in
set_option maxHeartbeats 3200000 in
theorem best_main (b o r : Nat) (hC : Cut b o r) (ho4 : o ≤ 4) (hall : ∀ o' : Nat, o < o' → o' ≤ 4 → ¬ cutOk b r o') (l : List Int) (hs : ShX l) (lo : Option Addr) (cap : Nat) (hc : l.length ≤ cap) (h0 : lo = none → cap = 0) (w : World) (hl : IntsAt w lo l) (hn : l.length = b - r) :
    Calls Try.prog 26 #[.int .i64 (b : Int), .int .i64 (r : Int), .slice lo l.length cap] w fun en w' => ∃ gp ge, en = .returned (.tuple #[riceV (bestRc l b r (bestK (ordS l b r) o)) (some ⟨gp, 0, none⟩) (2 ^ bestK (ordS l b r) o) (some ⟨ge, 0, none⟩) (2 ^ bestK (ordS l b r) o), .int .i64 (ordS l b r (bestK (ordS l b r) o) : Int)]) ∧ IntsBlk w' gp (bestRc l b r (bestK (ordS l b r) o)).P ∧ IntsBlk w' ge (bestRc l b r (bestK (ordS l b r) o)).E ∧ w.heap.size ≤ gp ∧ w.heap.size ≤ ge ∧ Below w.heap.size w w' := by
  have KF : Hid (∀ wx, Calls Try.prog 50 #[.int .i64 (b : Int), .int .i64 (r : Int)] wx fun en w' => en = .returned (.tuple #[cutV ((2 ^ o : Nat) : Int) ((b / 2 ^ o : Nat) : Int) (r : Int), .int .i64 (o : Int)]) ∧ Below wx.heap.size wx w') := fun wx => finest_yes b o r hC ho4 hall wx
  have hp := pow15 o hC.o15
  have hdv := hC.dv
  have hr2 := hC.r2
  have hb2 := hC.b2
  have hrb := hC.rb
  have hd : b / 2 ^ o ≤ 65535 := by have := Nat.div_le_self b (2 ^ o); omega
  have hl5 := hs.2
  have KN : Hid (∀ wx, Calls Try.prog 43 #[cutV ((2 ^ o : Nat) : Int) ((b / 2 ^ o : Nat) : Int) (r : Int)] wx fun e w' => e = .returned (.int .i64 ((b - r : Nat) : Int)) ∧ Below wx.heap.size wx w') := fun wx => by
    have hh := count_spec (2 ^ o) (b / 2 ^ o) r (by omega) hr2 hp.2 hd wx
    rw [hdv] at hh
    refine hh.mono ?_
    rintro e w' ⟨rfl, hb⟩
    refine ⟨?_, hb⟩
    rw [show ((b - r : Nat) : Int) = (b : Int) - (r : Int) by omega]
  have hbn : ((l.length : Int) != ((b - r : Nat) : Int)) = false := by rw [bne_eq_false_iff_eq]; omega
  have hcb : ∀ p i k, capF (ordF l b r p) i k ≤ 40155000 := fun p i k => by
    unfold capF; split
    · rename_i hk; exact ordF_le l hs b r p i k hk
    · omega
  have hpw : ∀ p, p ≤ o → 2 ^ p ≤ 16 := fun p hp => Nat.le_trans (Nat.pow_le_pow_right (by decide) (show p ≤ 4 by omega)) (by decide)
  have KPX : Hid (∀ wx, Below w.heap.size w wx → Calls Try.prog 51 #[.slice lo l.length cap, cutV ((2 ^ o : Nat) : Int) ((b / 2 ^ o : Nat) : Int) (r : Int)] wx fun en w' => ∃ g, en = .returned (.slice (some ⟨g, 0, none⟩) (2 ^ o) (2 ^ o)) ∧ PxB w' g (2 ^ o) (capF (ordF l b r o)) ∧ wx.heap.size ≤ g ∧ Below wx.heap.size wx w') := fun wx hb => (pricesOf_spec b o r hC l hn hs lo cap hc h0 wx (hl.below hb)).mono fun e w' hh => by
    obtain ⟨g, h1, h2, h3, h4⟩ := hh
    exact ⟨g, h1, h2.congr _ (fun i k _ hk => (cap_eq (ordF l b r o) i k (by omega)).symm), h3, h4⟩
  have KCH : Hid (∀ p g cp wx, p ≤ o → PxB wx g (2 ^ p) (capF (ordF l b r p)) → Calls Try.prog 52 #[.slice (some ⟨g, 0, none⟩) (2 ^ p) cp, .int .i64 (p : Int)] wx fun en w' => ∃ gp ge, en = .returned (.tuple #[.agg #[.int .i64 0, .int .i64 (p : Int), .slice (some ⟨gp, 0, none⟩) (2 ^ p) (2 ^ p), .slice (some ⟨ge, 0, none⟩) (2 ^ p) (2 ^ p)], .int .i64 (ordS l b r p : Int)]) ∧ IntsBlk w' gp (bestRc l b r p).P ∧ IntsBlk w' ge (bestRc l b r p).E ∧ wx.heap.size ≤ gp ∧ wx.heap.size ≤ ge ∧ Below wx.heap.size wx w') := fun p g cp wx hp hx => (cheapest_spec g (2 ^ p) cp p (capF (ordF l b r p)) (fun i k => Nat.le_trans (hcb p i k) (by decide)) (hpw p hp) wx hx).mono fun e w' hh => by
    obtain ⟨gp, ge, h1, h2, h3, h4, h5, h6⟩ := hh
    have e1 := chP_congr (capF (ordF l b r p)) (ordF l b r p) (2 ^ p) (fun i k hk => cap_eq _ i k hk)
    have e2 := chS_congr (capF (ordF l b r p)) (ordF l b r p) (2 ^ p) (fun i k hk => cap_eq _ i k hk)
    refine ⟨gp, ge, ?_, ?_, h3, h4, h5, h6⟩
    · rw [h1]
      show Ending.returned (.tuple #[.agg #[.int .i64 0, .int .i64 (p : Int), .slice (some ⟨gp, 0, none⟩) (chP (capF (ordF l b r p)) (2 ^ p)).length (2 ^ p), .slice (some ⟨ge, 0, none⟩) (chE (2 ^ p)).length (2 ^ p)], .int .i64 (chS (capF (ordF l b r p)) (2 ^ p) : Int)]) = _
      rw [chP_len, chE_len, e2]
      rfl
    · rw [e1] at h2; exact h2
  have KMG : Hid (∀ p g cp wx, p + 1 ≤ o → 2 ^ (p + 1) ≤ cp → PxB wx g (2 ^ (p + 1)) (capF (ordF l b r (p + 1))) → Calls Try.prog 53 #[.slice (some ⟨g, 0, none⟩) (2 ^ (p + 1)) cp] wx fun en w' => en = .returned (.slice (some ⟨g, 0, none⟩) (2 ^ p) cp) ∧ PxB w' g (2 ^ p) (capF (ordF l b r p)) ∧ Stays (fun x => x = g) wx w') := fun p g cp wx hp hcp hx => by
    have e : 2 ^ (p + 1) = 2 * 2 ^ p := by rw [Nat.pow_succ]; omega
    rw [e] at hx hcp ⊢
    refine (merged_spec (2 ^ p) g cp hcp (hpw p (by omega)) (Nat.pow_pos (by decide)) (capF (ordF l b r (p + 1))) (fun i k => Nat.le_trans (hcb (p + 1) i k) (by decide)) wx hx).mono fun e w' hh => ?_
    refine ⟨hh.1, hh.2.1.congr _ (fun i k _ hk => ?_), hh.2.2⟩
    rw [cap_eq _ _ k (by omega), cap_eq _ _ k (by omega), cap_eq _ _ k (by omega)]
    exact ordF_merge l (hC.to (p + 1) hp) i k
  have HPC : Hid (∀ p, p ≤ o → 2 ^ p ≤ 2 ^ o) := fun p hp => Nat.pow_le_pow_right (by decide) hp
  have hsb : ∀ p, p ≤ o → ordS l b r p ≤ 17000000000 := fun p hp => by
    have e2 := chS_congr (capF (ordF l b r p)) (ordF l b r p) (2 ^ p) (fun i k hk => cap_eq _ i k hk)
    have := chS_le (capF (ordF l b r p)) (fun i k => Nat.le_trans (hcb p i k) (by decide)) (2 ^ p)
    have := hpw p hp
    unfold ordS
    rw [← e2]
    have : 1000000004 * 2 ^ p ≤ 1000000004 * 16 := Nat.mul_le_mul_left _ (hpw p hp)
    omega
  have HSB : Hid (∀ p, p ≤ o → ordS l b r p ≤ 17000000000) := hsb
  have HDN : Hid (dnK (ordS l b r) o o = bestK (ordS l b r) o) := dn_best _ _
  have HDI : Hid (∀ n, n ≤ o → dnK (ordS l b r) o n ≤ o) := fun n hn => (dnK_in (ordS l b r) o n hn).2.1
  clear hC hall hl hs hdv hcb hpw hsb hc h0 hn
  generalize hNN : ((2 ^ o : Nat) : Int) = N at *
  generalize ((b / 2 ^ o : Nat) : Int) = d at *
  have hn1 : 1 ≤ N := by rw [← hNN]; omega
  clear hNN
  generalize b - r = br at *
  have hNb : (N == 0) = false := by rw [beq_eq_false_iff_ne]; omega
  have HB0 : Hid (Below w.heap.size w (w.alloc (.cells #[.int .i64 0, .int .i64 0, .slice none 0 0, .slice none 0 0] 24))) := (Below.refl _ _).alloc (Nat.le_refl _) _
  have HX0 : Hid ((w.alloc (.cells #[.int .i64 0, .int .i64 0, .slice none 0 0, .slice none 0 0] 24)).heap[w.heap.size]? = some (.cells #[.int .i64 0, .int .i64 0, .slice none 0 0, .slice none 0 0] 24 (0, 0))) := heap_alloc_new _ _
  go_enter Try.func26, Try.ntmps26
  go_wp2_with fail
  generalize hwa : w.alloc _ = wa at *
  clear hwa
  refine (KF.out wa).mono ?_
  rintro e w2 ⟨rfl, hb2⟩
  have HB2 : Hid (Below w.heap.size w w2) := HB0.out.trans (hb2.mono HB0.out.size)
  have HX2 : Hid (w2.heap[w.heap.size]? = some (.cells #[.int .i64 0, .int .i64 0, .slice none 0 0, .slice none 0 0] 24 (0, 0))) := by show _ = _; rw [hb2.block _ (lt_of_block HX0.out)]; exact HX0.out
  clear hb2 HB0 HX0
  have HB3 : Hid (Below w2.heap.size w2 (w2.alloc (.cells #[.int .i64 N, .int .i64 d, .int .i64 (r : Int)] 66))) := (Below.refl _ _).alloc (Nat.le_refl _) _
  have HX3 : Hid ((w2.alloc (.cells #[.int .i64 N, .int .i64 d, .int .i64 (r : Int)] 66)).heap[w.heap.size]? = some (.cells #[.int .i64 0, .int .i64 0, .slice none 0 0, .slice none 0 0] 24 (0, 0))) := by show _ = _; rw [HB3.out.block _ (lt_of_block HX2.out)]; exact HX2.out
  have HB4 : Hid (Below w.heap.size w (w2.alloc (.cells #[.int .i64 N, .int .i64 d, .int .i64 (r : Int)] 66))) := HB2.out.trans (HB3.out.mono HB2.out.size)

  have HC3 : Hid ((w2.alloc (.cells #[.int .i64 N, .int .i64 d, .int .i64 (r : Int)] 66)).heap[w2.heap.size]? = some (.cells #[.int .i64 N, .int .i64 d, .int .i64 (r : Int)] 66 (0, 0))) := heap_alloc_new _ _
  go_wp2_with fail
  generalize hw3 : w2.alloc _ = w3 at *
  generalize hcq : w2.heap.size = cq at *
  clear hw3 hcq
  refine (KN.out w3).mono ?_
  rintro e w4 ⟨rfl, hb4⟩
  have HX4 : Hid (w4.heap[w.heap.size]? = some (.cells #[.int .i64 0, .int .i64 0, .slice none 0 0, .slice none 0 0] 24 (0, 0))) := by show _ = _; rw [hb4.block _ (lt_of_block HX3.out)]; exact HX3.out
  have HB5 : Hid (Below w.heap.size w w4) := HB4.out.trans (hb4.mono HB4.out.size)
  have hcc : w4.heap[cq]? = some (.cells #[.int .i64 N, .int .i64 d, .int .i64 (r : Int)] 66 (0, 0)) := by rw [hb4.block _ (lt_of_block HC3.out)]; exact HC3.out
  have y0 : w4.cell? ⟨cq, 0, none⟩ = some (.int .i64 N) := by rw [cell_of_row _ _ _ _ _ _ hcc]; rfl
  have y1 : w4.cell? ⟨cq, 1, none⟩ = some (.int .i64 d) := by rw [cell_of_row _ _ _ _ _ _ hcc]; rfl
  have y2 : w4.cell? ⟨cq, 2, none⟩ = some (.int .i64 (r : Int)) := by rw [cell_of_row _ _ _ _ _ _ hcc]; rfl
  clear hb4 HX3 HB4 HC3 HB3 HB2 HX2
  go_wp2_with fail
  refine (KPX.out w4 HB5.out).mono ?_
  rintro e w5 ⟨g, rfl, hpx, hg5, hb5⟩
  have HX5 : Hid (w5.heap[w.heap.size]? = some (.cells #[.int .i64 0, .int .i64 0, .slice none 0 0, .slice none 0 0] 24 (0, 0))) := by show _ = _; rw [hb5.block _ (lt_of_block HX4.out)]; exact HX4.out
  have HB6 : Hid (Below w.heap.size w w5) := HB5.out.trans (hb5.mono HB5.out.size)
  have hz4 := lt_of_block HX4.out
  have HPX : Hid (PxB w5 g (2 ^ o) (capF (ordF l b r o))) := hpx
  have hgl := hpx.lt
  clear hpx hb5 y0 y1 y2 hcc HX4 HB5
  have kc := KCH.out o g (2 ^ o) w5 (Nat.le_refl _) HPX.out
  go_wp2_with fail
  refine kc.mono ?_
  rintro e w6 ⟨gp, ge, rfl, hP6, hE6, hg6, hg7, hb6⟩
  have HB9 : Hid (BS w l b r g w6.heap.size o o gp ge (w6.alloc (.cells #[.int .i64 0, .int .i64 (o : Int), .slice (some ⟨gp, 0, none⟩) (2 ^ o) (2 ^ o), .slice (some ⟨ge, 0, none⟩) (2 ^ o) (2 ^ o)] 24))) := by
    have ha : Below w6.heap.size w6 (w6.alloc (.cells #[.int .i64 0, .int .i64 (o : Int), .slice (some ⟨gp, 0, none⟩) (2 ^ o) (2 ^ o), .slice (some ⟨ge, 0, none⟩) (2 ^ o) (2 ^ o)] 24)) := (Below.refl _ _).alloc (Nat.le_refl _) _
    have hb7 : Below w5.heap.size w5 (w6.alloc (.cells #[.int .i64 0, .int .i64 (o : Int), .slice (some ⟨gp, 0, none⟩) (2 ^ o) (2 ^ o), .slice (some ⟨ge, 0, none⟩) (2 ^ o) (2 ^ o)] 24)) := hb6.trans (ha.mono hb6.size)
    have q1 := hP6.lt
    have q2 := hE6.lt
    have q3 := hb6.size
    exact ⟨HPX.out.below hb7, heap_alloc_new _ _, hP6.below ha, hE6.below ha, by rw [hb7.block _ (lt_of_block HX5.out)]; exact HX5.out, HB6.out.trans (hb7.mono HB6.out.size), by omega, by omega, by omega, by omega, by omega, by omega, by omega, by omega, by omega⟩
  clear kc hP6 hE6 hb6 HPX HX5 HB6
  go_wp2_with fail
  generalize hw7 : w6.alloc _ = w7 at *
  generalize hk7 : w6.heap.size = k at *
  clear hw7 hk7 hg6 hg7 hgl hg5 hz4
  go_loopw [9, 10, 12, 13, 14] (fun s9 s10 s12 s13 s14 wr => ∃ (n gp ge : Nat), n ≤ o ∧ s9 = .int .i64 ((o - n : Nat) : Int) ∧ s10 = .slice (some ⟨g, 0, none⟩) (2 ^ (o - n)) (2 ^ o) ∧ s12 = .int .i64 ((ordS l b r (dnK (ordS l b r) o n) : Nat) : Int) ∧ BS w l b r g k (o - n) (dnK (ordS l b r) o n) gp ge wr) (fun s9 _ _ _ _ _ => (intOf s9).toNat)
  case atStart => exact ⟨0, gp, ge, Nat.zero_le _, rfl, rfl, rfl, HB9.out⟩
  case round =>
    clear HB9
    obtain ⟨n, gp, ge, hno, rfl, rfl, rfl, hbs⟩ := hrel
    have HB : Hid (BS w l b r g k (o - n) (dnK (ordS l b r) o n) gp ge wr) := hbs
    clear hbs
    by_cases hlt : n < o
    · obtain ⟨p, hpo⟩ : ∃ p, o - n = p + 1 := ⟨o - n - 1, by omega⟩
      have hpn : o - (n + 1) = p := by omega
      have HPN : Hid (o - (n + 1) = p) := hpn
      have HDS : Hid (dnK (ordS l b r) o (n + 1) = if ordS l b r p ≤ ordS l b r (dnK (ordS l b r) o n) then p else dnK (ordS l b r) o n) := by
        have hh : dnK (ordS l b r) o (n + 1) = if ordS l b r (o - (n + 1)) ≤ ordS l b r (dnK (ordS l b r) o n) then o - (n + 1) else dnK (ordS l b r) o n := rfl
        rw [hpn] at hh
        exact hh
      have hcle := HDI.out n (by omega)
      have hpo2 : p + 1 ≤ o := by omega
      rw [hpo] at HB ⊢
      clear hpo
      have hf1 := HSB.out p (by omega)
      have hf2 := HSB.out (dnK (ordS l b r) o n) hcle
      have km := KMG.out p g (2 ^ o) wr (by omega) (HPC.out (p + 1) (by omega)) HB.out.px
      generalize dnK (ordS l b r) o n = c at *
      have hps : ((p + 1 : Nat) : Int) - 1 = (p : Int) := by omega
      have hp0 : (0 : Int) < ((p + 1 : Nat) : Int) := by omega
      have hp15 : ((p + 1 : Nat) : Int) ≤ 15 := by omega
      generalize ((p + 1 : Nat) : Int) = p1 at *
      clear hpn
      go_wp2_with fail
      refine km.mono ?_
      rintro e w3 ⟨rfl, hpx3, hs3⟩
      have HB3 : Hid (BS w l b r g k p c gp ge w3) := HB.out.merge hpx3 hs3
      clear hpx3 hs3 km HB
      have kc := KCH.out p g (2 ^ o) w3 (by omega) HB3.out.px
      go_wp2_with fail
      refine kc.mono ?_
      rintro e w4 ⟨gp', ge', rfl, hP4, hE4, hg4, hg5, hb4⟩
      have HB4 : Hid (BS w l b r g k p c gp ge (w4.alloc (.cells #[.int .i64 0, .int .i64 (p : Int), .slice (some ⟨gp', 0, none⟩) (2 ^ p) (2 ^ p), .slice (some ⟨ge', 0, none⟩) (2 ^ p) (2 ^ p)] 24))) := (HB3.out.low hb4).low ((Below.refl _ _).alloc (Nat.le_refl _) _)
      have HBX : Hid ((w4.alloc (.cells #[.int .i64 0, .int .i64 (p : Int), .slice (some ⟨gp', 0, none⟩) (2 ^ p) (2 ^ p), .slice (some ⟨ge', 0, none⟩) (2 ^ p) (2 ^ p)] 24)).heap[w4.heap.size]? = some (.cells #[.int .i64 0, .int .i64 (p : Int), .slice (some ⟨gp', 0, none⟩) (2 ^ p) (2 ^ p), .slice (some ⟨ge', 0, none⟩) (2 ^ p) (2 ^ p)] 24 (0, 0))) := heap_alloc_new _ _
      have hkk := lt_of_block HB3.out.bk
      have hgg := HB3.out.px.lt
      have hzz := lt_of_block HB3.out.rb
      have hsz := hb4.size
      have q1 := hP4.lt
      have q2 := hE4.lt
      have HP4 : Hid (IntsBlk (w4.alloc (.cells #[.int .i64 0, .int .i64 (p : Int), .slice (some ⟨gp', 0, none⟩) (2 ^ p) (2 ^ p), .slice (some ⟨ge', 0, none⟩) (2 ^ p) (2 ^ p)] 24)) gp' (bestRc l b r p).P) := hP4.below ((Below.refl _ _).alloc (Nat.le_refl _) _)
      have HE4 : Hid (IntsBlk (w4.alloc (.cells #[.int .i64 0, .int .i64 (p : Int), .slice (some ⟨gp', 0, none⟩) (2 ^ p) (2 ^ p), .slice (some ⟨ge', 0, none⟩) (2 ^ p) (2 ^ p)] 24)) ge' (bestRc l b r p).E) := hE4.below ((Below.refl _ _).alloc (Nat.le_refl _) _)
      clear hP4 hE4 hb4 kc HB3
      obtain ⟨y0, y1, y2, y3⟩ := HB4.out.cells
      have f0 := HB4.out.frozen 0
      have f1 := HB4.out.frozen 1
      have f2 := HB4.out.frozen 2
      have f3 := HB4.out.frozen 3
      have hnk : ¬ w4.heap.size = k := by omega
      have hkn : ¬ k = w4.heap.size := by omega
      by_cases hle : ordS l b r p ≤ ordS l b r c
      · rw [if_pos hle] at HDS
        go_wp2_with fail
        generalize hwf : World.setCell _ _ _ = wf
        have hO : ∀ i, i ≠ k → wf.heap[i]? = (w4.alloc (.cells #[.int .i64 0, .int .i64 (p : Int), .slice (some ⟨gp', 0, none⟩) (2 ^ p) (2 ^ p), .slice (some ⟨ge', 0, none⟩) (2 ^ p) (2 ^ p)] 24)).heap[i]? := fun i hi => by rw [← hwf]; exact set4_d _ _ _ _ _ i hi
        have hK : wf.heap[k]? = some (.cells #[.int .i64 0, .int .i64 (p : Int), .slice (some ⟨gp', 0, none⟩) (2 ^ p) (2 ^ p), .slice (some ⟨ge', 0, none⟩) (2 ^ p) (2 ^ p)] 24 (0, 0)) := by rw [← hwf]; exact set4_a _ _ _ _ _ HB4.out.bk
        have hbel : Below w.heap.size w wf := by rw [← hwf]; exact (((HB4.out.below.setCell (Nat.le_of_lt HB4.out.nk) _).setCell (Nat.le_of_lt HB4.out.nk) _).setCell (Nat.le_of_lt HB4.out.nk) _).setCell (Nat.le_of_lt HB4.out.nk) _
        clear hwf
        go_roundw
        case rel =>
          refine ⟨n + 1, gp', ge', by omega, by rw [HPN.out], by rw [HPN.out], by rw [HDS.out], ?_⟩
          rw [HPN.out, HDS.out]
          have hB := HB4.out
          have n1 := hB.nk
          refine ⟨?_, hK, ?_, ?_, by rw [hO _ (by omega)]; exact hB.rb, hbel, by omega, by omega, by omega, by omega, hB.gk, hB.nk, hB.ng, by omega, by omega⟩
          · obtain ⟨cs, a1, a2⟩ := hB.px
            exact ⟨cs, by rw [hO _ hB.gk]; exact a1, a2⟩
          · unfold IntsBlk; rw [hO _ (by omega)]; exact HP4.out
          · unfold IntsBlk; rw [hO _ (by omega)]; exact HE4.out
        case measure => simp [intOf]; omega
      · rw [if_neg hle] at HDS
        go_wp2_with fail
        go_roundw
        case rel =>
          refine ⟨n + 1, gp, ge, by omega, by rw [HPN.out], by rw [HPN.out], by rw [HDS.out], ?_⟩
          rw [HPN.out, HDS.out]
          exact HB4.out
        case measure => simp [intOf]; omega
    · have hno2 : n = o := by omega
      subst hno2
      rw [Nat.sub_self] at *
      rw [HDN.out] at HB
      have HDN' := HDN.out
      obtain ⟨y0, y1, y2, y3⟩ := HB.out.cells
      have hxr := HB.out.rb
      have u0 : wr.cell? ⟨w.heap.size, 0, none⟩ = some (.int .i64 0) := by rw [cell_of_row _ _ _ _ _ _ hxr]; rfl
      have fu0 : wr.frozen? ⟨w.heap.size, 0, none⟩ = false := by simp [World.frozen?, hxr]
      have u1 : wr.cell? ⟨w.heap.size, 1, none⟩ = some (.int .i64 0) := by rw [cell_of_row _ _ _ _ _ _ hxr]; rfl
      have fu1 : wr.frozen? ⟨w.heap.size, 1, none⟩ = false := by simp [World.frozen?, hxr]
      have u2 : wr.cell? ⟨w.heap.size, 2, none⟩ = some (.slice none 0 0) := by rw [cell_of_row _ _ _ _ _ _ hxr]; rfl
      have fu2 : wr.frozen? ⟨w.heap.size, 2, none⟩ = false := by simp [World.frozen?, hxr]
      have u3 : wr.cell? ⟨w.heap.size, 3, none⟩ = some (.slice none 0 0) := by rw [cell_of_row _ _ _ _ _ _ hxr]; rfl
      have fu3 : wr.frozen? ⟨w.heap.size, 3, none⟩ = false := by simp [World.frozen?, hxr]

      have hkn : ¬ k = w.heap.size := by have := HB.out.nk; omega
      clear hxr
      rw [HDN']
      clear HDN'
      generalize hcc : bestK (ordS l b r) n = c at *
      go_wp2_with fail
      generalize hwf : World.setCell _ _ _ = wf
      have hrow : wf.heap[w.heap.size]? = some (.cells #[.int .i64 0, .int .i64 (c : Int), .slice (some ⟨gp, 0, none⟩) (2 ^ c) (2 ^ c), .slice (some ⟨ge, 0, none⟩) (2 ^ c) (2 ^ c)] 24 (0, 0)) := by rw [← hwf]; exact set4_a _ _ _ _ _ HB.out.rb
      have hO : ∀ i, i ≠ w.heap.size → wf.heap[i]? = wr.heap[i]? := fun i hi => by rw [← hwf]; exact set4_d _ _ _ _ _ i hi
      have hbel : Below w.heap.size w wf := by rw [← hwf]; exact (((HB.out.below.setCell (Nat.le_refl _) _).setCell (Nat.le_refl _) _).setCell (Nat.le_refl _) _).setCell (Nat.le_refl _) _
      have hB := HB.out
      refine bodyPost_ret (v := .tuple #[.agg #[.int .i64 0, .int .i64 (c : Int), .slice (some ⟨gp, 0, none⟩) (2 ^ c) (2 ^ c), .slice (some ⟨ge, 0, none⟩) (2 ^ c) (2 ^ c)], .int .i64 ((ordS l b r c : Nat) : Int)]) ?_ rfl ⟨gp, ge, ?_, ?_, ?_, Nat.le_of_lt hB.np, Nat.le_of_lt hB.ne, hbel⟩
      · rw [results_two rfl]
        have hld := run_loadVar_row (P := Try.prog) wf w.heap.size 24 24 #[.int .i64 0, .int .i64 (c : Int), .slice (some ⟨gp, 0, none⟩) (2 ^ c) (2 ^ c), .slice (some ⟨ge, 0, none⟩) (2 ^ c) (2 ^ c)] (0, 0) _ hrow Try.underlying24 rfl info_Rice
        simp [asAddr, Result.andThen, hld]
      · rw [hcc]
        show _ = Ending.returned (.tuple #[.agg #[.int .i64 0, .int .i64 (c : Int), .slice (some ⟨gp, 0, none⟩) (chP (ordF l b r c) (2 ^ c)).length (2 ^ c), .slice (some ⟨ge, 0, none⟩) (chE (2 ^ c)).length (2 ^ c)], .int .i64 ((ordS l b r c : Nat) : Int)])
        rw [chP_len, chE_len]
      · rw [hcc]; unfold IntsBlk; rw [hO gp (by have := hB.np; omega)]; exact hB.bp
      · rw [hcc]; unfold IntsBlk; rw [hO ge (by have := hB.ne; omega)]; exact hB.be

end Go.Proofs.Ytdlakbgcflekkaa
