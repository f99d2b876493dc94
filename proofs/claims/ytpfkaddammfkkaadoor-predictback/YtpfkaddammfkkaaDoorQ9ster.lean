/- Own text: the program's Stereo and Unstereo. -/
import Derived.Test.YtpfkaddammfkkaaDoorQ9two
namespace Go.Proofs.YtpfkaddammfkkaaDoor
open Go.RowKit
set_option linter.unusedSimpArgs false
set_option linter.unusedVariables false

theorem alloc_size (w : World) (o : Obj) : (w.alloc o).heap.size = w.heap.size + 1 := by simp
/-- Two rows that are filled at once. -/
structure Fill2 (w : World) (g h : Nat) (X Y : List Int) (i j : Nat) (wx : World) : Prop where
  x : Fill w g X i wx
  y : Fill w h Y j wx
  ne : g ≠ h
section
variable {w wx w' : World} {g h : Nat} {X Y : List Int} {i j : Nat}
theorem Fill2.made (w : World) (X Y : List Int) (n : Nat) (hx : X.length = n) (hy : Y.length = n) : Fill2 w w.heap.size (w.heap.size + 1) X Y 0 0 ((w.alloc (.cells (madeCells #[.int .i64 0] n) 3)).alloc (.cells (madeCells #[.int .i64 0] n) 3)) := by
  have h1 := Fill.made w w (Below.refl _ _) X
  rw [hx] at h1
  have h2 := Fill.made w (w.alloc (.cells (madeCells #[.int .i64 0] n) 3)) h1.below Y
  rw [hy, alloc_size] at h2
  exact ⟨h1.low ((Below.refl _ _).alloc (Nat.le_refl _) _), h2, by omega⟩
theorem Fill2.swap (a : Fill2 w g h X Y i j wx) : Fill2 w h g Y X j i wx := ⟨a.y, a.x, fun e => a.ne e.symm⟩
theorem Fill2.low (a : Fill2 w g h X Y i j wx) (hb : Below wx.heap.size wx w') : Fill2 w g h X Y i j w' := ⟨a.x.low hb, a.y.low hb, a.ne⟩
theorem Fill2.setX (a : Fill2 w g h X Y i j wx) (hi : i < X.length) : Fill2 w g h X Y (i + 1) j (wx.setCell ⟨g, i, none⟩ (.int .i64 (X.getD i 0))) := ⟨a.x.set hi, a.y.other _ _ a.ne a.x.le, a.ne⟩
theorem Fill2.setY (a : Fill2 w g h X Y i j wx) (hj : j < Y.length) : Fill2 w g h X Y i (j + 1) (wx.setCell ⟨h, j, none⟩ (.int .i64 (Y.getD j 0))) := ⟨a.x.other _ _ (fun e => a.ne e.symm) a.y.le, a.y.set hj, a.ne⟩
end
set_option maxRecDepth 20000 in
set_option maxHeartbeats 1600000 in
theorem qstereo_spec (m : Int) (a b : List Int) (aa ba : Option Addr) (ac bc : Nat) (w : World) (ha : IntsAt w aa a) (hb : IntsAt w ba b) : Calls Tryd.prog 25 #[.int .i64 m, .slice aa a.length ac, .slice ba b.length bc] w (Ret3 (stR m a b) w) := by
  have kt := qtwo_spec m a b 1099511627776 (by decide) (by decide) aa ba ac bc w ha hb
  have hal := ha.len
  have hbl := hb.len
  cases ht : twoB m a b 1099511627776 with
  | false =>
    have HR : Hid (stR m a b = none) := by
      show _ = _
      unfold stR
      rw [if_neg (fun h => by rw [(twoB_iff m a b 1099511627776).2 h] at ht; cases ht)]
    rw [ht] at kt
    clear ht ha hb
    go_enter Tryd.func25, Tryd.ntmps25
    go_wp2_with fail
    refine kt.mono ?_
    rintro e w2 ⟨rfl, hw2⟩
    subst hw2
    clear kt
    go_wp2_with fail
    go_ret3
    exact ret3_none HR.out rfl (Below.refl _ _)
  | true =>
    have hh := (twoB_iff m a b 1099511627776).1 ht
    have HR0 : stR m a b = some (zipN (stP m.toNat) a b a.length, zipN (stQ m.toNat) a b a.length) := by unfold stR; rw [if_pos hh]
    obtain ⟨⟨m0, m3⟩, hlen, hia, hib⟩ := hh
    obtain ⟨m', rfl⟩ : ∃ m' : Nat, m = (m' : Int) := ⟨m.toNat, by omega⟩
    rw [Int.toNat_natCast] at HR0
    have hm3 : m' ≤ 3 := by omega
    rw [ht] at kt
    clear ht
    obtain ⟨X, hX⟩ : ∃ X, X = zipN (stP m') a b a.length := ⟨_, rfl⟩
    obtain ⟨Y, hY⟩ : ∃ Y, Y = zipN (stQ m') a b a.length := ⟨_, rfl⟩
    have HR : Hid (stR (m' : Int) a b = some (X, Y)) := by show _ = _; rw [HR0, hX, hY]
    have HXL : Hid (X.length = a.length) := by show _ = _; rw [hX, zipN_len]
    have HYL : Hid (Y.length = a.length) := by show _ = _; rw [hY, zipN_len]
    have HXR : Hid (Rng X) := by show Rng X; rw [hX]; exact zipN_num _ a b 1099511627776 (by decide) hia hib (fun p q h1 h2 => by unfold stP; split; omega; split <;> omega) _
    have HYR : Hid (Rng Y) := by show Rng Y; rw [hY]; exact zipN_num _ a b 1099511627776 (by decide) hia hib (fun p q h1 h2 => by unfold stQ; split; omega; split <;> omega) _
    have HKA0 : ∀ i, i < a.length → ∀ wx, Calls Tryd.prog 44 #[.int .i64 (m' : Int), .int .i64 (a.getD i 0), .int .i64 (b.getD i 0)] wx fun e w' => e = .returned (.tuple #[.int .i64 (X.getD i 0), .int .i64 (Y.getD i 0)]) ∧ w' = wx := fun i hi wx => by
      rw [hX, hY, zipN_at _ _ _ _ _ hi, zipN_at _ _ _ _ _ hi]
      exact qcoded_spec m' hm3 _ _ (inB_at a 1099511627776 hia (by decide) i) (inB_at b 1099511627776 hib (by decide) i) wx
    have hmk := make_ints a.length hal
    have HF1 : Hid (Fill2 w w.heap.size (w.heap.size + 1) X Y 0 0 (((w.alloc (.cells (madeCells #[.int .i64 0] a.length) 3)).alloc (.cells (madeCells #[.int .i64 0] a.length) 3)).drew)) := (Fill2.made w X Y a.length HXL.out HYL.out).low ⟨rfl, rfl, rfl, Nat.le_refl _, fun _ _ => rfl⟩
    have HF2 : Hid (Fill2 w (w.heap.size + 1) w.heap.size X Y 0 0 (((w.alloc (.cells (madeCells #[.int .i64 0] a.length) 3)).alloc (.cells (madeCells #[.int .i64 0] a.length) 3)).drew)) := (Fill2.made w Y X a.length HYL.out HXL.out).swap.low ⟨rfl, rfl, rfl, Nat.le_refl _, fun _ _ => rfl⟩
    have HKA : Hid (∀ i, i < a.length → ∀ wx, Calls Tryd.prog 44 #[.int .i64 (m' : Int), .int .i64 (a.getD i 0), .int .i64 (b.getD i 0)] wx fun e w' => e = .returned (.tuple #[.int .i64 (X.getD i 0), .int .i64 (Y.getD i 0)]) ∧ w' = wx) := HKA0
    clear HKA0
    have HIA : Hid (IntsAt w aa a) := ha
    have HIB : Hid (IntsAt w ba b) := hb
    clear hX hY HR0 ha hb hia hib m0 m3
    generalize hna : a.length = n at *
    have HNB : Hid (b.length = n) := hlen.symm
    have HNA : Hid (a.length = n) := hna
    rw [HNB.out] at kt
    rw [HNB.out]
    clear hlen hna
    go_enter Tryd.func25, Tryd.ntmps25
    go_wp2_with fail
    refine kt.mono ?_
    rintro e w2 ⟨rfl, hw2⟩
    subst hw2
    clear kt
    go_wp2_with fail
    go_region
    · go_wp2_with fail
      generalize hwa : World.drew _ = wa at *
      clear hwa
      have HA : Hid (Fill2 w2 (w2.heap.size) (w2.heap.size + 1) X Y 0 0 wa) := HF1.out
      clear HF1 HF2 hmk
      go_loopw [11, 25] (fun s11 s25 wr => ∃ i : Nat, i ≤ n ∧ s25 = .int .i64 (i : Int) ∧ Fill2 w2 (w2.heap.size) (w2.heap.size + 1) X Y i i wr) (fun _ s25 _ => n - (intOf s25).toNat)
      case atStart => exact ⟨0, Nat.zero_le _, rfl, HA.out⟩
      case round =>
        clear HA
        obtain ⟨i, hi, rfl, hf⟩ := hrel
        by_cases hlt : i < n
        · obtain ⟨b1, o1, rfl, q1⟩ := HIA.out.at i (by rw [HNA.out]; exact hlt)
          obtain ⟨b2, o2, rfl, q2⟩ := HIB.out.at i (by rw [HNB.out]; exact hlt)
          have HQ1 : Hid (∀ wx, Below w2.heap.size w2 wx → wx.cell? ⟨b1, o1 + i, none⟩ = some (.int .i64 (a.getD i 0))) := fun wx hh => q1 wx hh
          have HQ2 : Hid (∀ wx, Below w2.heap.size w2 wx → wx.cell? ⟨b2, o2 + i, none⟩ = some (.int .i64 (b.getD i 0))) := fun wx hh => q2 wx hh
          have HKC : Hid (∀ wx, Calls Tryd.prog 44 #[.int .i64 (m' : Int), .int .i64 (a.getD i 0), .int .i64 (b.getD i 0)] wx fun e w' => e = .returned (.tuple #[.int .i64 (X.getD i 0), .int .i64 (Y.getD i 0)]) ∧ w' = wx) := HKA.out i hlt
          have HD : Hid (Fill2 w2 (w2.heap.size) (w2.heap.size + 1) X Y i i wr.drew) := hf.low ⟨rfl, rfl, rfl, Nat.le_refl _, fun _ _ => rfl⟩
          have HX1 : Hid (Fill2 w2 (w2.heap.size) (w2.heap.size + 1) X Y (i + 1) i (wr.drew.setCell ⟨w2.heap.size, i, none⟩ (.int .i64 (X.getD i 0)))) := HD.out.setX (by rw [HXL.out]; exact hlt)
          have HX2 : Hid (Fill2 w2 (w2.heap.size) (w2.heap.size + 1) X Y (i + 1) (i + 1) ((wr.drew.setCell ⟨w2.heap.size, i, none⟩ (.int .i64 (X.getD i 0))).setCell ⟨w2.heap.size + 1, i, none⟩ (.int .i64 (Y.getD i 0)))) := HX1.out.setY (by rw [HYL.out]; exact hlt)
          have y5 := HD.out.x.cell i (by rw [HXL.out]; exact hlt)
          have z5 := HD.out.x.frozen i
          have y6 := HX1.out.y.cell i (by rw [HYL.out]; exact hlt)
          have z6 := HX1.out.y.frozen i
          have y7 := hf.y.cell i (by rw [HYL.out]; exact hlt)
          have z7 := hf.y.frozen i
          have y8 := hf.x.cell i (by rw [HXL.out]; exact hlt)
          have z8 := hf.x.frozen i
          clear q1 q2 hf
          generalize X.getD i 0 = P at *
          generalize Y.getD i 0 = Q at *
          generalize a.getD i 0 = p at *
          generalize b.getD i 0 = q at *
          generalize (if i < i then P else 0) = v5 at *
          generalize (if i < i then Q else 0) = v6 at *
          go_wp2_with fail
          refine wp_region_held_drew (S := fun wx => Below w2.heap.size w2 wx) (by kernel_rfl) HD.out.x.below (fun hS => ?_)
          refine wpAnyH_take (i := 0) (v := .slice (some ⟨w2.heap.size, 0, none⟩) n n) rfl (by kernel_rfl) (by kernel_rfl) (by kernel_rfl) (fun _ _ _ h => h) (Or.inl ⟨by rfl, fun w hSw => by go_simp⟩) hS ?_
          simp only [Act.put, List.getElem_toArray, List.getElem_cons_succ, List.getElem_cons_zero, List.setIfInBounds_toArray, List.set_cons_zero, List.set_cons_succ]
          refine wpAnyH_take (i := 1) (v := .int .i64 (i : Int)) rfl (by kernel_rfl) (by kernel_rfl) (by kernel_rfl) (fun _ _ _ h => h) (Or.inl ⟨by rfl, fun w hSw => by go_simp⟩) hS ?_
          simp only [Act.put, List.getElem_toArray, List.getElem_cons_succ, List.getElem_cons_zero, List.setIfInBounds_toArray, List.set_cons_zero, List.set_cons_succ]
          refine wpAnyH_take (i := 2) (v := .slice (some ⟨w2.heap.size + 1, 0, none⟩) n n) rfl (by kernel_rfl) (by kernel_rfl) (by kernel_rfl) (fun _ _ _ h => h) (Or.inl ⟨by rfl, fun w hSw => by go_simp⟩) hS ?_
          simp only [Act.put, List.getElem_toArray, List.getElem_cons_succ, List.getElem_cons_zero, List.setIfInBounds_toArray, List.set_cons_zero, List.set_cons_succ]
          refine wpAnyH_take (i := 3) (v := .int .i64 (i : Int)) rfl (by kernel_rfl) (by kernel_rfl) (by kernel_rfl) (fun _ _ _ h => h) (Or.inl ⟨by rfl, fun w hSw => by go_simp⟩) hS ?_
          simp only [Act.put, List.getElem_toArray, List.getElem_cons_succ, List.getElem_cons_zero, List.setIfInBounds_toArray, List.set_cons_zero, List.set_cons_succ]
          refine wpAnyH_take (i := 4) (v := .int .i64 (m' : Int)) rfl (by kernel_rfl) (by kernel_rfl) (by kernel_rfl) (fun _ _ _ h => h) (Or.inl ⟨by rfl, fun w hSw => by go_simp⟩) hS ?_
          simp only [Act.put, List.getElem_toArray, List.getElem_cons_succ, List.getElem_cons_zero, List.setIfInBounds_toArray, List.set_cons_zero, List.set_cons_succ]
          refine wpAnyH_take (i := 5) (v := .slice (some ⟨b1, o1, none⟩) n ac) rfl (by kernel_rfl) (by kernel_rfl) (by kernel_rfl) (fun _ _ _ h => h) (Or.inl ⟨by rfl, fun w hSw => by go_simp⟩) hS ?_
          simp only [Act.put, List.getElem_toArray, List.getElem_cons_succ, List.getElem_cons_zero, List.setIfInBounds_toArray, List.set_cons_zero, List.set_cons_succ]
          refine wpAnyH_take (i := 6) (v := .int .i64 (i : Int)) rfl (by kernel_rfl) (by kernel_rfl) (by kernel_rfl) (fun _ _ _ h => h) (Or.inl ⟨by rfl, fun w hSw => by go_simp⟩) hS ?_
          simp only [Act.put, List.getElem_toArray, List.getElem_cons_succ, List.getElem_cons_zero, List.setIfInBounds_toArray, List.set_cons_zero, List.set_cons_succ]
          refine wpAnyH_take (i := 7) (v := .pointer (some ⟨b1, o1 + i, none⟩)) rfl (by kernel_rfl) (by kernel_rfl) (by kernel_rfl) (fun _ _ _ h => h) (Or.inl ⟨by rfl, fun w hSw => by go_simp⟩) hS ?_
          simp only [Act.put, List.getElem_toArray, List.getElem_cons_succ, List.getElem_cons_zero, List.setIfInBounds_toArray, List.set_cons_zero, List.set_cons_succ]
          refine wpAnyH_take (i := 8) (v := .int .i64 p) rfl (by kernel_rfl) (by kernel_rfl) (by kernel_rfl) (fun _ _ _ h => h) (Or.inl ⟨by rfl, fun w hSw => by have r1 := HQ1.out w hSw; go_simp⟩) hS ?_
          simp only [Act.put, List.getElem_toArray, List.getElem_cons_succ, List.getElem_cons_zero, List.setIfInBounds_toArray, List.set_cons_zero, List.set_cons_succ]
          refine wpAnyH_take (i := 9) (v := .slice (some ⟨b2, o2, none⟩) n bc) rfl (by kernel_rfl) (by kernel_rfl) (by kernel_rfl) (fun _ _ _ h => h) (Or.inl ⟨by rfl, fun w hSw => by go_simp⟩) hS ?_
          simp only [Act.put, List.getElem_toArray, List.getElem_cons_succ, List.getElem_cons_zero, List.setIfInBounds_toArray, List.set_cons_zero, List.set_cons_succ]
          refine wpAnyH_take (i := 10) (v := .int .i64 (i : Int)) rfl (by kernel_rfl) (by kernel_rfl) (by kernel_rfl) (fun _ _ _ h => h) (Or.inl ⟨by rfl, fun w hSw => by go_simp⟩) hS ?_
          simp only [Act.put, List.getElem_toArray, List.getElem_cons_succ, List.getElem_cons_zero, List.setIfInBounds_toArray, List.set_cons_zero, List.set_cons_succ]
          refine wpAnyH_take (i := 11) (v := .pointer (some ⟨b2, o2 + i, none⟩)) rfl (by kernel_rfl) (by kernel_rfl) (by kernel_rfl) (fun _ _ _ h => h) (Or.inl ⟨by rfl, fun w hSw => by go_simp⟩) hS ?_
          simp only [Act.put, List.getElem_toArray, List.getElem_cons_succ, List.getElem_cons_zero, List.setIfInBounds_toArray, List.set_cons_zero, List.set_cons_succ]
          refine wpAnyH_take (i := 12) (v := .int .i64 q) rfl (by kernel_rfl) (by kernel_rfl) (by kernel_rfl) (fun _ _ _ h => h) (Or.inl ⟨by rfl, fun w hSw => by have r1 := HQ2.out w hSw; go_simp⟩) hS ?_
          simp only [Act.put, List.getElem_toArray, List.getElem_cons_succ, List.getElem_cons_zero, List.setIfInBounds_toArray, List.set_cons_zero, List.set_cons_succ]
          refine wpAnyH_ready (rs := [13]) (by kernel_rfl) (by simp) ?_
          refine AllReadyH.cons rfl (fun K hK => ?_) AllReadyH.nil
          go_simp
          refine (HKC.out _).mono ?_
          rintro e w5 ⟨rfl, hw5⟩
          subst hw5
          refine hK.out _ _ hS (fun hS5 => ?_)
          clear hK K
          try simp only [Act.put, List.getElem_toArray, List.getElem_cons_succ, List.getElem_cons_zero, List.setIfInBounds_toArray, List.set_cons_zero, List.set_cons_succ]
          refine wpAnyH_take (i := 14) (v := .tuple #[.int .i64 P, .int .i64 Q]) rfl (by kernel_rfl) (by kernel_rfl) (by kernel_rfl) (fun _ _ _ h => h) (Or.inl ⟨by rfl, fun w hSw => by go_simp⟩) hS5 ?_
          simp only [Act.put, List.getElem_toArray, List.getElem_cons_succ, List.getElem_cons_zero, List.setIfInBounds_toArray, List.set_cons_zero, List.set_cons_succ]
          refine wpAnyH_take (i := 15) (v := .int .i64 P) rfl (by kernel_rfl) (by kernel_rfl) (by kernel_rfl) (fun _ _ _ h => h) (Or.inl ⟨by rfl, fun w hSw => by go_simp⟩) hS5 ?_
          simp only [Act.put, List.getElem_toArray, List.getElem_cons_succ, List.getElem_cons_zero, List.setIfInBounds_toArray, List.set_cons_zero, List.set_cons_succ]
          refine wpAnyH_take (i := 16) (v := .int .i64 Q) rfl (by kernel_rfl) (by kernel_rfl) (by kernel_rfl) (fun _ _ _ h => h) (Or.inl ⟨by rfl, fun w hSw => by go_simp⟩) hS5 ?_
          simp only [Act.put, List.getElem_toArray, List.getElem_cons_succ, List.getElem_cons_zero, List.setIfInBounds_toArray, List.set_cons_zero, List.set_cons_succ]
          refine wpAnyH_take (i := 17) (v := .pointer (some ⟨w2.heap.size, i, none⟩)) rfl (by kernel_rfl) (by kernel_rfl) (by kernel_rfl) (fun _ _ _ h => h) (Or.inl ⟨by rfl, fun w hSw => by go_simp⟩) hS5 ?_
          simp only [Act.put, List.getElem_toArray, List.getElem_cons_succ, List.getElem_cons_zero, List.setIfInBounds_toArray, List.set_cons_zero, List.set_cons_succ]
          refine wpAnyH_ready (rs := [18]) (by kernel_rfl) (by simp) ?_
          refine AllReadyH.cons rfl (fun K hK => ?_) AllReadyH.nil
          go_simp
          refine hK.out _ _ HX1.out.x.below (fun hS6 => ?_)
          clear hK K
          try simp only [Act.put, List.getElem_toArray, List.getElem_cons_succ, List.getElem_cons_zero, List.setIfInBounds_toArray, List.set_cons_zero, List.set_cons_succ]
          refine wpAnyH_take (i := 19) (v := .pointer (some ⟨w2.heap.size + 1, i, none⟩)) rfl (by kernel_rfl) (by kernel_rfl) (by kernel_rfl) (fun _ _ _ h => h) (Or.inl ⟨by rfl, fun w hSw => by go_simp⟩) hS6 ?_
          simp only [Act.put, List.getElem_toArray, List.getElem_cons_succ, List.getElem_cons_zero, List.setIfInBounds_toArray, List.set_cons_zero, List.set_cons_succ]
          refine wpAnyH_ready (rs := [20]) (by kernel_rfl) (by simp) ?_
          refine AllReadyH.cons rfl (fun K hK => ?_) AllReadyH.nil
          go_simp
          refine hK.out _ _ HX2.out.x.below (fun hS7 => ?_)
          clear hK K
          refine wpAnyH_done (by kernel_rfl) ?_ _

          go_wp2_with fail
          go_roundw
          case rel => exact ⟨i + 1, by omega, by go_num, HX2.out⟩
          case measure => simp [intOf]; omega
        · have hin : i = n := by omega
          subst hin
          have HI : Hid (IntsAt wr (some ⟨w2.heap.size, 0, none⟩) X ∧ IntsAt wr (some ⟨w2.heap.size + 1, 0, none⟩) Y ∧ Below w2.heap.size w2 wr) := ⟨Fill.ints (by rw [HXL.out]; exact hf.x) (by rw [HXL.out]; omega) HXR.out, Fill.ints (by rw [HYL.out]; exact hf.y) (by rw [HYL.out]; omega) HYR.out, hf.x.below⟩
          clear hf
          go_wp2_with fail
          go_ret3
          exact ret3_some (xc := i) (yc := i) HR.out (by rw [HXL.out, HYL.out]; rfl) HI.out.1 HI.out.2.1 HI.out.2.2

    · go_wp2_with fail
      generalize hwa : World.drew _ = wa at *
      clear hwa
      have HA : Hid (Fill2 w2 (w2.heap.size + 1) (w2.heap.size) X Y 0 0 wa) := HF2.out
      clear HF1 HF2 hmk
      go_loopw [11, 25] (fun s11 s25 wr => ∃ i : Nat, i ≤ n ∧ s25 = .int .i64 (i : Int) ∧ Fill2 w2 (w2.heap.size + 1) (w2.heap.size) X Y i i wr) (fun _ s25 _ => n - (intOf s25).toNat)
      case atStart => exact ⟨0, Nat.zero_le _, rfl, HA.out⟩
      case round =>
        clear HA
        obtain ⟨i, hi, rfl, hf⟩ := hrel
        by_cases hlt : i < n
        · obtain ⟨b1, o1, rfl, q1⟩ := HIA.out.at i (by rw [HNA.out]; exact hlt)
          obtain ⟨b2, o2, rfl, q2⟩ := HIB.out.at i (by rw [HNB.out]; exact hlt)
          have HQ1 : Hid (∀ wx, Below w2.heap.size w2 wx → wx.cell? ⟨b1, o1 + i, none⟩ = some (.int .i64 (a.getD i 0))) := fun wx hh => q1 wx hh
          have HQ2 : Hid (∀ wx, Below w2.heap.size w2 wx → wx.cell? ⟨b2, o2 + i, none⟩ = some (.int .i64 (b.getD i 0))) := fun wx hh => q2 wx hh
          have HKC : Hid (∀ wx, Calls Tryd.prog 44 #[.int .i64 (m' : Int), .int .i64 (a.getD i 0), .int .i64 (b.getD i 0)] wx fun e w' => e = .returned (.tuple #[.int .i64 (X.getD i 0), .int .i64 (Y.getD i 0)]) ∧ w' = wx) := HKA.out i hlt
          have HD : Hid (Fill2 w2 (w2.heap.size + 1) (w2.heap.size) X Y i i wr.drew) := hf.low ⟨rfl, rfl, rfl, Nat.le_refl _, fun _ _ => rfl⟩
          have HX1 : Hid (Fill2 w2 (w2.heap.size + 1) (w2.heap.size) X Y (i + 1) i (wr.drew.setCell ⟨w2.heap.size + 1, i, none⟩ (.int .i64 (X.getD i 0)))) := HD.out.setX (by rw [HXL.out]; exact hlt)
          have HX2 : Hid (Fill2 w2 (w2.heap.size + 1) (w2.heap.size) X Y (i + 1) (i + 1) ((wr.drew.setCell ⟨w2.heap.size + 1, i, none⟩ (.int .i64 (X.getD i 0))).setCell ⟨w2.heap.size, i, none⟩ (.int .i64 (Y.getD i 0)))) := HX1.out.setY (by rw [HYL.out]; exact hlt)
          have y5 := HD.out.x.cell i (by rw [HXL.out]; exact hlt)
          have z5 := HD.out.x.frozen i
          have y6 := HX1.out.y.cell i (by rw [HYL.out]; exact hlt)
          have z6 := HX1.out.y.frozen i
          have y7 := hf.y.cell i (by rw [HYL.out]; exact hlt)
          have z7 := hf.y.frozen i
          have y8 := hf.x.cell i (by rw [HXL.out]; exact hlt)
          have z8 := hf.x.frozen i
          clear q1 q2 hf
          generalize X.getD i 0 = P at *
          generalize Y.getD i 0 = Q at *
          generalize a.getD i 0 = p at *
          generalize b.getD i 0 = q at *
          generalize (if i < i then P else 0) = v5 at *
          generalize (if i < i then Q else 0) = v6 at *
          go_wp2_with fail
          refine wp_region_held_drew (S := fun wx => Below w2.heap.size w2 wx) (by kernel_rfl) HD.out.x.below (fun hS => ?_)
          refine wpAnyH_take (i := 0) (v := .slice (some ⟨w2.heap.size + 1, 0, none⟩) n n) rfl (by kernel_rfl) (by kernel_rfl) (by kernel_rfl) (fun _ _ _ h => h) (Or.inl ⟨by rfl, fun w hSw => by go_simp⟩) hS ?_
          simp only [Act.put, List.getElem_toArray, List.getElem_cons_succ, List.getElem_cons_zero, List.setIfInBounds_toArray, List.set_cons_zero, List.set_cons_succ]
          refine wpAnyH_take (i := 1) (v := .int .i64 (i : Int)) rfl (by kernel_rfl) (by kernel_rfl) (by kernel_rfl) (fun _ _ _ h => h) (Or.inl ⟨by rfl, fun w hSw => by go_simp⟩) hS ?_
          simp only [Act.put, List.getElem_toArray, List.getElem_cons_succ, List.getElem_cons_zero, List.setIfInBounds_toArray, List.set_cons_zero, List.set_cons_succ]
          refine wpAnyH_take (i := 2) (v := .slice (some ⟨w2.heap.size, 0, none⟩) n n) rfl (by kernel_rfl) (by kernel_rfl) (by kernel_rfl) (fun _ _ _ h => h) (Or.inl ⟨by rfl, fun w hSw => by go_simp⟩) hS ?_
          simp only [Act.put, List.getElem_toArray, List.getElem_cons_succ, List.getElem_cons_zero, List.setIfInBounds_toArray, List.set_cons_zero, List.set_cons_succ]
          refine wpAnyH_take (i := 3) (v := .int .i64 (i : Int)) rfl (by kernel_rfl) (by kernel_rfl) (by kernel_rfl) (fun _ _ _ h => h) (Or.inl ⟨by rfl, fun w hSw => by go_simp⟩) hS ?_
          simp only [Act.put, List.getElem_toArray, List.getElem_cons_succ, List.getElem_cons_zero, List.setIfInBounds_toArray, List.set_cons_zero, List.set_cons_succ]
          refine wpAnyH_take (i := 4) (v := .int .i64 (m' : Int)) rfl (by kernel_rfl) (by kernel_rfl) (by kernel_rfl) (fun _ _ _ h => h) (Or.inl ⟨by rfl, fun w hSw => by go_simp⟩) hS ?_
          simp only [Act.put, List.getElem_toArray, List.getElem_cons_succ, List.getElem_cons_zero, List.setIfInBounds_toArray, List.set_cons_zero, List.set_cons_succ]
          refine wpAnyH_take (i := 5) (v := .slice (some ⟨b1, o1, none⟩) n ac) rfl (by kernel_rfl) (by kernel_rfl) (by kernel_rfl) (fun _ _ _ h => h) (Or.inl ⟨by rfl, fun w hSw => by go_simp⟩) hS ?_
          simp only [Act.put, List.getElem_toArray, List.getElem_cons_succ, List.getElem_cons_zero, List.setIfInBounds_toArray, List.set_cons_zero, List.set_cons_succ]
          refine wpAnyH_take (i := 6) (v := .int .i64 (i : Int)) rfl (by kernel_rfl) (by kernel_rfl) (by kernel_rfl) (fun _ _ _ h => h) (Or.inl ⟨by rfl, fun w hSw => by go_simp⟩) hS ?_
          simp only [Act.put, List.getElem_toArray, List.getElem_cons_succ, List.getElem_cons_zero, List.setIfInBounds_toArray, List.set_cons_zero, List.set_cons_succ]
          refine wpAnyH_take (i := 7) (v := .pointer (some ⟨b1, o1 + i, none⟩)) rfl (by kernel_rfl) (by kernel_rfl) (by kernel_rfl) (fun _ _ _ h => h) (Or.inl ⟨by rfl, fun w hSw => by go_simp⟩) hS ?_
          simp only [Act.put, List.getElem_toArray, List.getElem_cons_succ, List.getElem_cons_zero, List.setIfInBounds_toArray, List.set_cons_zero, List.set_cons_succ]
          refine wpAnyH_take (i := 8) (v := .int .i64 p) rfl (by kernel_rfl) (by kernel_rfl) (by kernel_rfl) (fun _ _ _ h => h) (Or.inl ⟨by rfl, fun w hSw => by have r1 := HQ1.out w hSw; go_simp⟩) hS ?_
          simp only [Act.put, List.getElem_toArray, List.getElem_cons_succ, List.getElem_cons_zero, List.setIfInBounds_toArray, List.set_cons_zero, List.set_cons_succ]
          refine wpAnyH_take (i := 9) (v := .slice (some ⟨b2, o2, none⟩) n bc) rfl (by kernel_rfl) (by kernel_rfl) (by kernel_rfl) (fun _ _ _ h => h) (Or.inl ⟨by rfl, fun w hSw => by go_simp⟩) hS ?_
          simp only [Act.put, List.getElem_toArray, List.getElem_cons_succ, List.getElem_cons_zero, List.setIfInBounds_toArray, List.set_cons_zero, List.set_cons_succ]
          refine wpAnyH_take (i := 10) (v := .int .i64 (i : Int)) rfl (by kernel_rfl) (by kernel_rfl) (by kernel_rfl) (fun _ _ _ h => h) (Or.inl ⟨by rfl, fun w hSw => by go_simp⟩) hS ?_
          simp only [Act.put, List.getElem_toArray, List.getElem_cons_succ, List.getElem_cons_zero, List.setIfInBounds_toArray, List.set_cons_zero, List.set_cons_succ]
          refine wpAnyH_take (i := 11) (v := .pointer (some ⟨b2, o2 + i, none⟩)) rfl (by kernel_rfl) (by kernel_rfl) (by kernel_rfl) (fun _ _ _ h => h) (Or.inl ⟨by rfl, fun w hSw => by go_simp⟩) hS ?_
          simp only [Act.put, List.getElem_toArray, List.getElem_cons_succ, List.getElem_cons_zero, List.setIfInBounds_toArray, List.set_cons_zero, List.set_cons_succ]
          refine wpAnyH_take (i := 12) (v := .int .i64 q) rfl (by kernel_rfl) (by kernel_rfl) (by kernel_rfl) (fun _ _ _ h => h) (Or.inl ⟨by rfl, fun w hSw => by have r1 := HQ2.out w hSw; go_simp⟩) hS ?_
          simp only [Act.put, List.getElem_toArray, List.getElem_cons_succ, List.getElem_cons_zero, List.setIfInBounds_toArray, List.set_cons_zero, List.set_cons_succ]
          refine wpAnyH_ready (rs := [13]) (by kernel_rfl) (by simp) ?_
          refine AllReadyH.cons rfl (fun K hK => ?_) AllReadyH.nil
          go_simp
          refine (HKC.out _).mono ?_
          rintro e w5 ⟨rfl, hw5⟩
          subst hw5
          refine hK.out _ _ hS (fun hS5 => ?_)
          clear hK K
          try simp only [Act.put, List.getElem_toArray, List.getElem_cons_succ, List.getElem_cons_zero, List.setIfInBounds_toArray, List.set_cons_zero, List.set_cons_succ]
          refine wpAnyH_take (i := 14) (v := .tuple #[.int .i64 P, .int .i64 Q]) rfl (by kernel_rfl) (by kernel_rfl) (by kernel_rfl) (fun _ _ _ h => h) (Or.inl ⟨by rfl, fun w hSw => by go_simp⟩) hS5 ?_
          simp only [Act.put, List.getElem_toArray, List.getElem_cons_succ, List.getElem_cons_zero, List.setIfInBounds_toArray, List.set_cons_zero, List.set_cons_succ]
          refine wpAnyH_take (i := 15) (v := .int .i64 P) rfl (by kernel_rfl) (by kernel_rfl) (by kernel_rfl) (fun _ _ _ h => h) (Or.inl ⟨by rfl, fun w hSw => by go_simp⟩) hS5 ?_
          simp only [Act.put, List.getElem_toArray, List.getElem_cons_succ, List.getElem_cons_zero, List.setIfInBounds_toArray, List.set_cons_zero, List.set_cons_succ]
          refine wpAnyH_take (i := 16) (v := .int .i64 Q) rfl (by kernel_rfl) (by kernel_rfl) (by kernel_rfl) (fun _ _ _ h => h) (Or.inl ⟨by rfl, fun w hSw => by go_simp⟩) hS5 ?_
          simp only [Act.put, List.getElem_toArray, List.getElem_cons_succ, List.getElem_cons_zero, List.setIfInBounds_toArray, List.set_cons_zero, List.set_cons_succ]
          refine wpAnyH_take (i := 17) (v := .pointer (some ⟨w2.heap.size + 1, i, none⟩)) rfl (by kernel_rfl) (by kernel_rfl) (by kernel_rfl) (fun _ _ _ h => h) (Or.inl ⟨by rfl, fun w hSw => by go_simp⟩) hS5 ?_
          simp only [Act.put, List.getElem_toArray, List.getElem_cons_succ, List.getElem_cons_zero, List.setIfInBounds_toArray, List.set_cons_zero, List.set_cons_succ]
          refine wpAnyH_ready (rs := [18]) (by kernel_rfl) (by simp) ?_
          refine AllReadyH.cons rfl (fun K hK => ?_) AllReadyH.nil
          go_simp
          refine hK.out _ _ HX1.out.x.below (fun hS6 => ?_)
          clear hK K
          try simp only [Act.put, List.getElem_toArray, List.getElem_cons_succ, List.getElem_cons_zero, List.setIfInBounds_toArray, List.set_cons_zero, List.set_cons_succ]
          refine wpAnyH_take (i := 19) (v := .pointer (some ⟨w2.heap.size, i, none⟩)) rfl (by kernel_rfl) (by kernel_rfl) (by kernel_rfl) (fun _ _ _ h => h) (Or.inl ⟨by rfl, fun w hSw => by go_simp⟩) hS6 ?_
          simp only [Act.put, List.getElem_toArray, List.getElem_cons_succ, List.getElem_cons_zero, List.setIfInBounds_toArray, List.set_cons_zero, List.set_cons_succ]
          refine wpAnyH_ready (rs := [20]) (by kernel_rfl) (by simp) ?_
          refine AllReadyH.cons rfl (fun K hK => ?_) AllReadyH.nil
          go_simp
          refine hK.out _ _ HX2.out.x.below (fun hS7 => ?_)
          clear hK K
          refine wpAnyH_done (by kernel_rfl) ?_ _

          go_wp2_with fail
          go_roundw
          case rel => exact ⟨i + 1, by omega, by go_num, HX2.out⟩
          case measure => simp [intOf]; omega
        · have hin : i = n := by omega
          subst hin
          have HI : Hid (IntsAt wr (some ⟨w2.heap.size + 1, 0, none⟩) X ∧ IntsAt wr (some ⟨w2.heap.size, 0, none⟩) Y ∧ Below w2.heap.size w2 wr) := ⟨Fill.ints (by rw [HXL.out]; exact hf.x) (by rw [HXL.out]; omega) HXR.out, Fill.ints (by rw [HYL.out]; exact hf.y) (by rw [HYL.out]; omega) HYR.out, hf.x.below⟩
          clear hf
          go_wp2_with fail
          go_ret3
          exact ret3_some (xc := i) (yc := i) HR.out (by rw [HXL.out, HYL.out]; rfl) HI.out.1 HI.out.2.1 HI.out.2.2

set_option maxRecDepth 20000 in
set_option maxHeartbeats 1600000 in
theorem qunstereo_spec (m : Int) (a b : List Int) (aa ba : Option Addr) (ac bc : Nat) (w : World) (ha : IntsAt w aa a) (hb : IntsAt w ba b) : Calls Tryd.prog 27 #[.int .i64 m, .slice aa a.length ac, .slice ba b.length bc] w (Ret3 (ustR m a b) w) := by
  have kt := qtwo_spec m a b 4398046511104 (by decide) (by decide) aa ba ac bc w ha hb
  have hal := ha.len
  have hbl := hb.len
  cases ht : twoB m a b 4398046511104 with
  | false =>
    have HR : Hid (ustR m a b = none) := by
      show _ = _
      unfold ustR
      rw [if_neg (fun h => by rw [(twoB_iff m a b 4398046511104).2 h] at ht; cases ht)]
    rw [ht] at kt
    clear ht ha hb
    go_enter Tryd.func27, Tryd.ntmps27
    go_wp2_with fail
    refine kt.mono ?_
    rintro e w2 ⟨rfl, hw2⟩
    subst hw2
    clear kt
    go_wp2_with fail
    go_ret3
    exact ret3_none HR.out rfl (Below.refl _ _)
  | true =>
    have hh := (twoB_iff m a b 4398046511104).1 ht
    have HR0 : ustR m a b = some (zipN (unP m.toNat) a b a.length, zipN (unQ m.toNat) a b a.length) := by unfold ustR; rw [if_pos hh]
    obtain ⟨⟨m0, m3⟩, hlen, hia, hib⟩ := hh
    obtain ⟨m', rfl⟩ : ∃ m' : Nat, m = (m' : Int) := ⟨m.toNat, by omega⟩
    rw [Int.toNat_natCast] at HR0
    have hm3 : m' ≤ 3 := by omega
    rw [ht] at kt
    clear ht
    obtain ⟨X, hX⟩ : ∃ X, X = zipN (unP m') a b a.length := ⟨_, rfl⟩
    obtain ⟨Y, hY⟩ : ∃ Y, Y = zipN (unQ m') a b a.length := ⟨_, rfl⟩
    have HR : Hid (ustR (m' : Int) a b = some (X, Y)) := by show _ = _; rw [HR0, hX, hY]
    have HXL : Hid (X.length = a.length) := by show _ = _; rw [hX, zipN_len]
    have HYL : Hid (Y.length = a.length) := by show _ = _; rw [hY, zipN_len]
    have HXR : Hid (Rng X) := by show Rng X; rw [hX]; exact zipN_num _ a b 4398046511104 (by decide) hia hib (fun p q h1 h2 => by unfold unP; split; omega; split <;> omega) _
    have HYR : Hid (Rng Y) := by show Rng Y; rw [hY]; exact zipN_num _ a b 4398046511104 (by decide) hia hib (fun p q h1 h2 => by unfold unQ; split; omega; split <;> omega) _
    have HKA0 : ∀ i, i < a.length → ∀ wx, Calls Tryd.prog 46 #[.int .i64 (m' : Int), .int .i64 (a.getD i 0), .int .i64 (b.getD i 0)] wx fun e w' => e = .returned (.tuple #[.int .i64 (X.getD i 0), .int .i64 (Y.getD i 0)]) ∧ w' = wx := fun i hi wx => by
      rw [hX, hY, zipN_at _ _ _ _ _ hi, zipN_at _ _ _ _ _ hi]
      exact quncoded_spec m' hm3 _ _ (inB_at a 4398046511104 hia (by decide) i) (inB_at b 4398046511104 hib (by decide) i) wx
    have hmk := make_ints a.length hal
    have HF1 : Hid (Fill2 w w.heap.size (w.heap.size + 1) X Y 0 0 (((w.alloc (.cells (madeCells #[.int .i64 0] a.length) 3)).alloc (.cells (madeCells #[.int .i64 0] a.length) 3)).drew)) := (Fill2.made w X Y a.length HXL.out HYL.out).low ⟨rfl, rfl, rfl, Nat.le_refl _, fun _ _ => rfl⟩
    have HF2 : Hid (Fill2 w (w.heap.size + 1) w.heap.size X Y 0 0 (((w.alloc (.cells (madeCells #[.int .i64 0] a.length) 3)).alloc (.cells (madeCells #[.int .i64 0] a.length) 3)).drew)) := (Fill2.made w Y X a.length HYL.out HXL.out).swap.low ⟨rfl, rfl, rfl, Nat.le_refl _, fun _ _ => rfl⟩
    have HKA : Hid (∀ i, i < a.length → ∀ wx, Calls Tryd.prog 46 #[.int .i64 (m' : Int), .int .i64 (a.getD i 0), .int .i64 (b.getD i 0)] wx fun e w' => e = .returned (.tuple #[.int .i64 (X.getD i 0), .int .i64 (Y.getD i 0)]) ∧ w' = wx) := HKA0
    clear HKA0
    have HIA : Hid (IntsAt w aa a) := ha
    have HIB : Hid (IntsAt w ba b) := hb
    clear hX hY HR0 ha hb hia hib m0 m3
    generalize hna : a.length = n at *
    have HNB : Hid (b.length = n) := hlen.symm
    have HNA : Hid (a.length = n) := hna
    rw [HNB.out] at kt
    rw [HNB.out]
    clear hlen hna
    go_enter Tryd.func27, Tryd.ntmps27
    go_wp2_with fail
    refine kt.mono ?_
    rintro e w2 ⟨rfl, hw2⟩
    subst hw2
    clear kt
    go_wp2_with fail
    go_region
    · go_wp2_with fail
      generalize hwa : World.drew _ = wa at *
      clear hwa
      have HA : Hid (Fill2 w2 (w2.heap.size) (w2.heap.size + 1) X Y 0 0 wa) := HF1.out
      clear HF1 HF2 hmk
      go_loopw [11, 25] (fun s11 s25 wr => ∃ i : Nat, i ≤ n ∧ s25 = .int .i64 (i : Int) ∧ Fill2 w2 (w2.heap.size) (w2.heap.size + 1) X Y i i wr) (fun _ s25 _ => n - (intOf s25).toNat)
      case atStart => exact ⟨0, Nat.zero_le _, rfl, HA.out⟩
      case round =>
        clear HA
        obtain ⟨i, hi, rfl, hf⟩ := hrel
        by_cases hlt : i < n
        · obtain ⟨b1, o1, rfl, q1⟩ := HIA.out.at i (by rw [HNA.out]; exact hlt)
          obtain ⟨b2, o2, rfl, q2⟩ := HIB.out.at i (by rw [HNB.out]; exact hlt)
          have HQ1 : Hid (∀ wx, Below w2.heap.size w2 wx → wx.cell? ⟨b1, o1 + i, none⟩ = some (.int .i64 (a.getD i 0))) := fun wx hh => q1 wx hh
          have HQ2 : Hid (∀ wx, Below w2.heap.size w2 wx → wx.cell? ⟨b2, o2 + i, none⟩ = some (.int .i64 (b.getD i 0))) := fun wx hh => q2 wx hh
          have HKC : Hid (∀ wx, Calls Tryd.prog 46 #[.int .i64 (m' : Int), .int .i64 (a.getD i 0), .int .i64 (b.getD i 0)] wx fun e w' => e = .returned (.tuple #[.int .i64 (X.getD i 0), .int .i64 (Y.getD i 0)]) ∧ w' = wx) := HKA.out i hlt
          have HD : Hid (Fill2 w2 (w2.heap.size) (w2.heap.size + 1) X Y i i wr.drew) := hf.low ⟨rfl, rfl, rfl, Nat.le_refl _, fun _ _ => rfl⟩
          have HX1 : Hid (Fill2 w2 (w2.heap.size) (w2.heap.size + 1) X Y (i + 1) i (wr.drew.setCell ⟨w2.heap.size, i, none⟩ (.int .i64 (X.getD i 0)))) := HD.out.setX (by rw [HXL.out]; exact hlt)
          have HX2 : Hid (Fill2 w2 (w2.heap.size) (w2.heap.size + 1) X Y (i + 1) (i + 1) ((wr.drew.setCell ⟨w2.heap.size, i, none⟩ (.int .i64 (X.getD i 0))).setCell ⟨w2.heap.size + 1, i, none⟩ (.int .i64 (Y.getD i 0)))) := HX1.out.setY (by rw [HYL.out]; exact hlt)
          have y5 := HD.out.x.cell i (by rw [HXL.out]; exact hlt)
          have z5 := HD.out.x.frozen i
          have y6 := HX1.out.y.cell i (by rw [HYL.out]; exact hlt)
          have z6 := HX1.out.y.frozen i
          have y7 := hf.y.cell i (by rw [HYL.out]; exact hlt)
          have z7 := hf.y.frozen i
          have y8 := hf.x.cell i (by rw [HXL.out]; exact hlt)
          have z8 := hf.x.frozen i
          clear q1 q2 hf
          generalize X.getD i 0 = P at *
          generalize Y.getD i 0 = Q at *
          generalize a.getD i 0 = p at *
          generalize b.getD i 0 = q at *
          generalize (if i < i then P else 0) = v5 at *
          generalize (if i < i then Q else 0) = v6 at *
          go_wp2_with fail
          refine wp_region_held_drew (S := fun wx => Below w2.heap.size w2 wx) (by kernel_rfl) HD.out.x.below (fun hS => ?_)
          refine wpAnyH_take (i := 0) (v := .slice (some ⟨w2.heap.size, 0, none⟩) n n) rfl (by kernel_rfl) (by kernel_rfl) (by kernel_rfl) (fun _ _ _ h => h) (Or.inl ⟨by rfl, fun w hSw => by go_simp⟩) hS ?_
          simp only [Act.put, List.getElem_toArray, List.getElem_cons_succ, List.getElem_cons_zero, List.setIfInBounds_toArray, List.set_cons_zero, List.set_cons_succ]
          refine wpAnyH_take (i := 1) (v := .int .i64 (i : Int)) rfl (by kernel_rfl) (by kernel_rfl) (by kernel_rfl) (fun _ _ _ h => h) (Or.inl ⟨by rfl, fun w hSw => by go_simp⟩) hS ?_
          simp only [Act.put, List.getElem_toArray, List.getElem_cons_succ, List.getElem_cons_zero, List.setIfInBounds_toArray, List.set_cons_zero, List.set_cons_succ]
          refine wpAnyH_take (i := 2) (v := .slice (some ⟨w2.heap.size + 1, 0, none⟩) n n) rfl (by kernel_rfl) (by kernel_rfl) (by kernel_rfl) (fun _ _ _ h => h) (Or.inl ⟨by rfl, fun w hSw => by go_simp⟩) hS ?_
          simp only [Act.put, List.getElem_toArray, List.getElem_cons_succ, List.getElem_cons_zero, List.setIfInBounds_toArray, List.set_cons_zero, List.set_cons_succ]
          refine wpAnyH_take (i := 3) (v := .int .i64 (i : Int)) rfl (by kernel_rfl) (by kernel_rfl) (by kernel_rfl) (fun _ _ _ h => h) (Or.inl ⟨by rfl, fun w hSw => by go_simp⟩) hS ?_
          simp only [Act.put, List.getElem_toArray, List.getElem_cons_succ, List.getElem_cons_zero, List.setIfInBounds_toArray, List.set_cons_zero, List.set_cons_succ]
          refine wpAnyH_take (i := 4) (v := .int .i64 (m' : Int)) rfl (by kernel_rfl) (by kernel_rfl) (by kernel_rfl) (fun _ _ _ h => h) (Or.inl ⟨by rfl, fun w hSw => by go_simp⟩) hS ?_
          simp only [Act.put, List.getElem_toArray, List.getElem_cons_succ, List.getElem_cons_zero, List.setIfInBounds_toArray, List.set_cons_zero, List.set_cons_succ]
          refine wpAnyH_take (i := 5) (v := .slice (some ⟨b1, o1, none⟩) n ac) rfl (by kernel_rfl) (by kernel_rfl) (by kernel_rfl) (fun _ _ _ h => h) (Or.inl ⟨by rfl, fun w hSw => by go_simp⟩) hS ?_
          simp only [Act.put, List.getElem_toArray, List.getElem_cons_succ, List.getElem_cons_zero, List.setIfInBounds_toArray, List.set_cons_zero, List.set_cons_succ]
          refine wpAnyH_take (i := 6) (v := .int .i64 (i : Int)) rfl (by kernel_rfl) (by kernel_rfl) (by kernel_rfl) (fun _ _ _ h => h) (Or.inl ⟨by rfl, fun w hSw => by go_simp⟩) hS ?_
          simp only [Act.put, List.getElem_toArray, List.getElem_cons_succ, List.getElem_cons_zero, List.setIfInBounds_toArray, List.set_cons_zero, List.set_cons_succ]
          refine wpAnyH_take (i := 7) (v := .pointer (some ⟨b1, o1 + i, none⟩)) rfl (by kernel_rfl) (by kernel_rfl) (by kernel_rfl) (fun _ _ _ h => h) (Or.inl ⟨by rfl, fun w hSw => by go_simp⟩) hS ?_
          simp only [Act.put, List.getElem_toArray, List.getElem_cons_succ, List.getElem_cons_zero, List.setIfInBounds_toArray, List.set_cons_zero, List.set_cons_succ]
          refine wpAnyH_take (i := 8) (v := .int .i64 p) rfl (by kernel_rfl) (by kernel_rfl) (by kernel_rfl) (fun _ _ _ h => h) (Or.inl ⟨by rfl, fun w hSw => by have r1 := HQ1.out w hSw; go_simp⟩) hS ?_
          simp only [Act.put, List.getElem_toArray, List.getElem_cons_succ, List.getElem_cons_zero, List.setIfInBounds_toArray, List.set_cons_zero, List.set_cons_succ]
          refine wpAnyH_take (i := 9) (v := .slice (some ⟨b2, o2, none⟩) n bc) rfl (by kernel_rfl) (by kernel_rfl) (by kernel_rfl) (fun _ _ _ h => h) (Or.inl ⟨by rfl, fun w hSw => by go_simp⟩) hS ?_
          simp only [Act.put, List.getElem_toArray, List.getElem_cons_succ, List.getElem_cons_zero, List.setIfInBounds_toArray, List.set_cons_zero, List.set_cons_succ]
          refine wpAnyH_take (i := 10) (v := .int .i64 (i : Int)) rfl (by kernel_rfl) (by kernel_rfl) (by kernel_rfl) (fun _ _ _ h => h) (Or.inl ⟨by rfl, fun w hSw => by go_simp⟩) hS ?_
          simp only [Act.put, List.getElem_toArray, List.getElem_cons_succ, List.getElem_cons_zero, List.setIfInBounds_toArray, List.set_cons_zero, List.set_cons_succ]
          refine wpAnyH_take (i := 11) (v := .pointer (some ⟨b2, o2 + i, none⟩)) rfl (by kernel_rfl) (by kernel_rfl) (by kernel_rfl) (fun _ _ _ h => h) (Or.inl ⟨by rfl, fun w hSw => by go_simp⟩) hS ?_
          simp only [Act.put, List.getElem_toArray, List.getElem_cons_succ, List.getElem_cons_zero, List.setIfInBounds_toArray, List.set_cons_zero, List.set_cons_succ]
          refine wpAnyH_take (i := 12) (v := .int .i64 q) rfl (by kernel_rfl) (by kernel_rfl) (by kernel_rfl) (fun _ _ _ h => h) (Or.inl ⟨by rfl, fun w hSw => by have r1 := HQ2.out w hSw; go_simp⟩) hS ?_
          simp only [Act.put, List.getElem_toArray, List.getElem_cons_succ, List.getElem_cons_zero, List.setIfInBounds_toArray, List.set_cons_zero, List.set_cons_succ]
          refine wpAnyH_ready (rs := [13]) (by kernel_rfl) (by simp) ?_
          refine AllReadyH.cons rfl (fun K hK => ?_) AllReadyH.nil
          go_simp
          refine (HKC.out _).mono ?_
          rintro e w5 ⟨rfl, hw5⟩
          subst hw5
          refine hK.out _ _ hS (fun hS5 => ?_)
          clear hK K
          try simp only [Act.put, List.getElem_toArray, List.getElem_cons_succ, List.getElem_cons_zero, List.setIfInBounds_toArray, List.set_cons_zero, List.set_cons_succ]
          refine wpAnyH_take (i := 14) (v := .tuple #[.int .i64 P, .int .i64 Q]) rfl (by kernel_rfl) (by kernel_rfl) (by kernel_rfl) (fun _ _ _ h => h) (Or.inl ⟨by rfl, fun w hSw => by go_simp⟩) hS5 ?_
          simp only [Act.put, List.getElem_toArray, List.getElem_cons_succ, List.getElem_cons_zero, List.setIfInBounds_toArray, List.set_cons_zero, List.set_cons_succ]
          refine wpAnyH_take (i := 15) (v := .int .i64 P) rfl (by kernel_rfl) (by kernel_rfl) (by kernel_rfl) (fun _ _ _ h => h) (Or.inl ⟨by rfl, fun w hSw => by go_simp⟩) hS5 ?_
          simp only [Act.put, List.getElem_toArray, List.getElem_cons_succ, List.getElem_cons_zero, List.setIfInBounds_toArray, List.set_cons_zero, List.set_cons_succ]
          refine wpAnyH_take (i := 16) (v := .int .i64 Q) rfl (by kernel_rfl) (by kernel_rfl) (by kernel_rfl) (fun _ _ _ h => h) (Or.inl ⟨by rfl, fun w hSw => by go_simp⟩) hS5 ?_
          simp only [Act.put, List.getElem_toArray, List.getElem_cons_succ, List.getElem_cons_zero, List.setIfInBounds_toArray, List.set_cons_zero, List.set_cons_succ]
          refine wpAnyH_take (i := 17) (v := .pointer (some ⟨w2.heap.size, i, none⟩)) rfl (by kernel_rfl) (by kernel_rfl) (by kernel_rfl) (fun _ _ _ h => h) (Or.inl ⟨by rfl, fun w hSw => by go_simp⟩) hS5 ?_
          simp only [Act.put, List.getElem_toArray, List.getElem_cons_succ, List.getElem_cons_zero, List.setIfInBounds_toArray, List.set_cons_zero, List.set_cons_succ]
          refine wpAnyH_ready (rs := [18]) (by kernel_rfl) (by simp) ?_
          refine AllReadyH.cons rfl (fun K hK => ?_) AllReadyH.nil
          go_simp
          refine hK.out _ _ HX1.out.x.below (fun hS6 => ?_)
          clear hK K
          try simp only [Act.put, List.getElem_toArray, List.getElem_cons_succ, List.getElem_cons_zero, List.setIfInBounds_toArray, List.set_cons_zero, List.set_cons_succ]
          refine wpAnyH_take (i := 19) (v := .pointer (some ⟨w2.heap.size + 1, i, none⟩)) rfl (by kernel_rfl) (by kernel_rfl) (by kernel_rfl) (fun _ _ _ h => h) (Or.inl ⟨by rfl, fun w hSw => by go_simp⟩) hS6 ?_
          simp only [Act.put, List.getElem_toArray, List.getElem_cons_succ, List.getElem_cons_zero, List.setIfInBounds_toArray, List.set_cons_zero, List.set_cons_succ]
          refine wpAnyH_ready (rs := [20]) (by kernel_rfl) (by simp) ?_
          refine AllReadyH.cons rfl (fun K hK => ?_) AllReadyH.nil
          go_simp
          refine hK.out _ _ HX2.out.x.below (fun hS7 => ?_)
          clear hK K
          refine wpAnyH_done (by kernel_rfl) ?_ _

          go_wp2_with fail
          go_roundw
          case rel => exact ⟨i + 1, by omega, by go_num, HX2.out⟩
          case measure => simp [intOf]; omega
        · have hin : i = n := by omega
          subst hin
          have HI : Hid (IntsAt wr (some ⟨w2.heap.size, 0, none⟩) X ∧ IntsAt wr (some ⟨w2.heap.size + 1, 0, none⟩) Y ∧ Below w2.heap.size w2 wr) := ⟨Fill.ints (by rw [HXL.out]; exact hf.x) (by rw [HXL.out]; omega) HXR.out, Fill.ints (by rw [HYL.out]; exact hf.y) (by rw [HYL.out]; omega) HYR.out, hf.x.below⟩
          clear hf
          go_wp2_with fail
          go_ret3
          exact ret3_some (xc := i) (yc := i) HR.out (by rw [HXL.out, HYL.out]; rfl) HI.out.1 HI.out.2.1 HI.out.2.2

    · go_wp2_with fail
      generalize hwa : World.drew _ = wa at *
      clear hwa
      have HA : Hid (Fill2 w2 (w2.heap.size + 1) (w2.heap.size) X Y 0 0 wa) := HF2.out
      clear HF1 HF2 hmk
      go_loopw [11, 25] (fun s11 s25 wr => ∃ i : Nat, i ≤ n ∧ s25 = .int .i64 (i : Int) ∧ Fill2 w2 (w2.heap.size + 1) (w2.heap.size) X Y i i wr) (fun _ s25 _ => n - (intOf s25).toNat)
      case atStart => exact ⟨0, Nat.zero_le _, rfl, HA.out⟩
      case round =>
        clear HA
        obtain ⟨i, hi, rfl, hf⟩ := hrel
        by_cases hlt : i < n
        · obtain ⟨b1, o1, rfl, q1⟩ := HIA.out.at i (by rw [HNA.out]; exact hlt)
          obtain ⟨b2, o2, rfl, q2⟩ := HIB.out.at i (by rw [HNB.out]; exact hlt)
          have HQ1 : Hid (∀ wx, Below w2.heap.size w2 wx → wx.cell? ⟨b1, o1 + i, none⟩ = some (.int .i64 (a.getD i 0))) := fun wx hh => q1 wx hh
          have HQ2 : Hid (∀ wx, Below w2.heap.size w2 wx → wx.cell? ⟨b2, o2 + i, none⟩ = some (.int .i64 (b.getD i 0))) := fun wx hh => q2 wx hh
          have HKC : Hid (∀ wx, Calls Tryd.prog 46 #[.int .i64 (m' : Int), .int .i64 (a.getD i 0), .int .i64 (b.getD i 0)] wx fun e w' => e = .returned (.tuple #[.int .i64 (X.getD i 0), .int .i64 (Y.getD i 0)]) ∧ w' = wx) := HKA.out i hlt
          have HD : Hid (Fill2 w2 (w2.heap.size + 1) (w2.heap.size) X Y i i wr.drew) := hf.low ⟨rfl, rfl, rfl, Nat.le_refl _, fun _ _ => rfl⟩
          have HX1 : Hid (Fill2 w2 (w2.heap.size + 1) (w2.heap.size) X Y (i + 1) i (wr.drew.setCell ⟨w2.heap.size + 1, i, none⟩ (.int .i64 (X.getD i 0)))) := HD.out.setX (by rw [HXL.out]; exact hlt)
          have HX2 : Hid (Fill2 w2 (w2.heap.size + 1) (w2.heap.size) X Y (i + 1) (i + 1) ((wr.drew.setCell ⟨w2.heap.size + 1, i, none⟩ (.int .i64 (X.getD i 0))).setCell ⟨w2.heap.size, i, none⟩ (.int .i64 (Y.getD i 0)))) := HX1.out.setY (by rw [HYL.out]; exact hlt)
          have y5 := HD.out.x.cell i (by rw [HXL.out]; exact hlt)
          have z5 := HD.out.x.frozen i
          have y6 := HX1.out.y.cell i (by rw [HYL.out]; exact hlt)
          have z6 := HX1.out.y.frozen i
          have y7 := hf.y.cell i (by rw [HYL.out]; exact hlt)
          have z7 := hf.y.frozen i
          have y8 := hf.x.cell i (by rw [HXL.out]; exact hlt)
          have z8 := hf.x.frozen i
          clear q1 q2 hf
          generalize X.getD i 0 = P at *
          generalize Y.getD i 0 = Q at *
          generalize a.getD i 0 = p at *
          generalize b.getD i 0 = q at *
          generalize (if i < i then P else 0) = v5 at *
          generalize (if i < i then Q else 0) = v6 at *
          go_wp2_with fail
          refine wp_region_held_drew (S := fun wx => Below w2.heap.size w2 wx) (by kernel_rfl) HD.out.x.below (fun hS => ?_)
          refine wpAnyH_take (i := 0) (v := .slice (some ⟨w2.heap.size + 1, 0, none⟩) n n) rfl (by kernel_rfl) (by kernel_rfl) (by kernel_rfl) (fun _ _ _ h => h) (Or.inl ⟨by rfl, fun w hSw => by go_simp⟩) hS ?_
          simp only [Act.put, List.getElem_toArray, List.getElem_cons_succ, List.getElem_cons_zero, List.setIfInBounds_toArray, List.set_cons_zero, List.set_cons_succ]
          refine wpAnyH_take (i := 1) (v := .int .i64 (i : Int)) rfl (by kernel_rfl) (by kernel_rfl) (by kernel_rfl) (fun _ _ _ h => h) (Or.inl ⟨by rfl, fun w hSw => by go_simp⟩) hS ?_
          simp only [Act.put, List.getElem_toArray, List.getElem_cons_succ, List.getElem_cons_zero, List.setIfInBounds_toArray, List.set_cons_zero, List.set_cons_succ]
          refine wpAnyH_take (i := 2) (v := .slice (some ⟨w2.heap.size, 0, none⟩) n n) rfl (by kernel_rfl) (by kernel_rfl) (by kernel_rfl) (fun _ _ _ h => h) (Or.inl ⟨by rfl, fun w hSw => by go_simp⟩) hS ?_
          simp only [Act.put, List.getElem_toArray, List.getElem_cons_succ, List.getElem_cons_zero, List.setIfInBounds_toArray, List.set_cons_zero, List.set_cons_succ]
          refine wpAnyH_take (i := 3) (v := .int .i64 (i : Int)) rfl (by kernel_rfl) (by kernel_rfl) (by kernel_rfl) (fun _ _ _ h => h) (Or.inl ⟨by rfl, fun w hSw => by go_simp⟩) hS ?_
          simp only [Act.put, List.getElem_toArray, List.getElem_cons_succ, List.getElem_cons_zero, List.setIfInBounds_toArray, List.set_cons_zero, List.set_cons_succ]
          refine wpAnyH_take (i := 4) (v := .int .i64 (m' : Int)) rfl (by kernel_rfl) (by kernel_rfl) (by kernel_rfl) (fun _ _ _ h => h) (Or.inl ⟨by rfl, fun w hSw => by go_simp⟩) hS ?_
          simp only [Act.put, List.getElem_toArray, List.getElem_cons_succ, List.getElem_cons_zero, List.setIfInBounds_toArray, List.set_cons_zero, List.set_cons_succ]
          refine wpAnyH_take (i := 5) (v := .slice (some ⟨b1, o1, none⟩) n ac) rfl (by kernel_rfl) (by kernel_rfl) (by kernel_rfl) (fun _ _ _ h => h) (Or.inl ⟨by rfl, fun w hSw => by go_simp⟩) hS ?_
          simp only [Act.put, List.getElem_toArray, List.getElem_cons_succ, List.getElem_cons_zero, List.setIfInBounds_toArray, List.set_cons_zero, List.set_cons_succ]
          refine wpAnyH_take (i := 6) (v := .int .i64 (i : Int)) rfl (by kernel_rfl) (by kernel_rfl) (by kernel_rfl) (fun _ _ _ h => h) (Or.inl ⟨by rfl, fun w hSw => by go_simp⟩) hS ?_
          simp only [Act.put, List.getElem_toArray, List.getElem_cons_succ, List.getElem_cons_zero, List.setIfInBounds_toArray, List.set_cons_zero, List.set_cons_succ]
          refine wpAnyH_take (i := 7) (v := .pointer (some ⟨b1, o1 + i, none⟩)) rfl (by kernel_rfl) (by kernel_rfl) (by kernel_rfl) (fun _ _ _ h => h) (Or.inl ⟨by rfl, fun w hSw => by go_simp⟩) hS ?_
          simp only [Act.put, List.getElem_toArray, List.getElem_cons_succ, List.getElem_cons_zero, List.setIfInBounds_toArray, List.set_cons_zero, List.set_cons_succ]
          refine wpAnyH_take (i := 8) (v := .int .i64 p) rfl (by kernel_rfl) (by kernel_rfl) (by kernel_rfl) (fun _ _ _ h => h) (Or.inl ⟨by rfl, fun w hSw => by have r1 := HQ1.out w hSw; go_simp⟩) hS ?_
          simp only [Act.put, List.getElem_toArray, List.getElem_cons_succ, List.getElem_cons_zero, List.setIfInBounds_toArray, List.set_cons_zero, List.set_cons_succ]
          refine wpAnyH_take (i := 9) (v := .slice (some ⟨b2, o2, none⟩) n bc) rfl (by kernel_rfl) (by kernel_rfl) (by kernel_rfl) (fun _ _ _ h => h) (Or.inl ⟨by rfl, fun w hSw => by go_simp⟩) hS ?_
          simp only [Act.put, List.getElem_toArray, List.getElem_cons_succ, List.getElem_cons_zero, List.setIfInBounds_toArray, List.set_cons_zero, List.set_cons_succ]
          refine wpAnyH_take (i := 10) (v := .int .i64 (i : Int)) rfl (by kernel_rfl) (by kernel_rfl) (by kernel_rfl) (fun _ _ _ h => h) (Or.inl ⟨by rfl, fun w hSw => by go_simp⟩) hS ?_
          simp only [Act.put, List.getElem_toArray, List.getElem_cons_succ, List.getElem_cons_zero, List.setIfInBounds_toArray, List.set_cons_zero, List.set_cons_succ]
          refine wpAnyH_take (i := 11) (v := .pointer (some ⟨b2, o2 + i, none⟩)) rfl (by kernel_rfl) (by kernel_rfl) (by kernel_rfl) (fun _ _ _ h => h) (Or.inl ⟨by rfl, fun w hSw => by go_simp⟩) hS ?_
          simp only [Act.put, List.getElem_toArray, List.getElem_cons_succ, List.getElem_cons_zero, List.setIfInBounds_toArray, List.set_cons_zero, List.set_cons_succ]
          refine wpAnyH_take (i := 12) (v := .int .i64 q) rfl (by kernel_rfl) (by kernel_rfl) (by kernel_rfl) (fun _ _ _ h => h) (Or.inl ⟨by rfl, fun w hSw => by have r1 := HQ2.out w hSw; go_simp⟩) hS ?_
          simp only [Act.put, List.getElem_toArray, List.getElem_cons_succ, List.getElem_cons_zero, List.setIfInBounds_toArray, List.set_cons_zero, List.set_cons_succ]
          refine wpAnyH_ready (rs := [13]) (by kernel_rfl) (by simp) ?_
          refine AllReadyH.cons rfl (fun K hK => ?_) AllReadyH.nil
          go_simp
          refine (HKC.out _).mono ?_
          rintro e w5 ⟨rfl, hw5⟩
          subst hw5
          refine hK.out _ _ hS (fun hS5 => ?_)
          clear hK K
          try simp only [Act.put, List.getElem_toArray, List.getElem_cons_succ, List.getElem_cons_zero, List.setIfInBounds_toArray, List.set_cons_zero, List.set_cons_succ]
          refine wpAnyH_take (i := 14) (v := .tuple #[.int .i64 P, .int .i64 Q]) rfl (by kernel_rfl) (by kernel_rfl) (by kernel_rfl) (fun _ _ _ h => h) (Or.inl ⟨by rfl, fun w hSw => by go_simp⟩) hS5 ?_
          simp only [Act.put, List.getElem_toArray, List.getElem_cons_succ, List.getElem_cons_zero, List.setIfInBounds_toArray, List.set_cons_zero, List.set_cons_succ]
          refine wpAnyH_take (i := 15) (v := .int .i64 P) rfl (by kernel_rfl) (by kernel_rfl) (by kernel_rfl) (fun _ _ _ h => h) (Or.inl ⟨by rfl, fun w hSw => by go_simp⟩) hS5 ?_
          simp only [Act.put, List.getElem_toArray, List.getElem_cons_succ, List.getElem_cons_zero, List.setIfInBounds_toArray, List.set_cons_zero, List.set_cons_succ]
          refine wpAnyH_take (i := 16) (v := .int .i64 Q) rfl (by kernel_rfl) (by kernel_rfl) (by kernel_rfl) (fun _ _ _ h => h) (Or.inl ⟨by rfl, fun w hSw => by go_simp⟩) hS5 ?_
          simp only [Act.put, List.getElem_toArray, List.getElem_cons_succ, List.getElem_cons_zero, List.setIfInBounds_toArray, List.set_cons_zero, List.set_cons_succ]
          refine wpAnyH_take (i := 17) (v := .pointer (some ⟨w2.heap.size + 1, i, none⟩)) rfl (by kernel_rfl) (by kernel_rfl) (by kernel_rfl) (fun _ _ _ h => h) (Or.inl ⟨by rfl, fun w hSw => by go_simp⟩) hS5 ?_
          simp only [Act.put, List.getElem_toArray, List.getElem_cons_succ, List.getElem_cons_zero, List.setIfInBounds_toArray, List.set_cons_zero, List.set_cons_succ]
          refine wpAnyH_ready (rs := [18]) (by kernel_rfl) (by simp) ?_
          refine AllReadyH.cons rfl (fun K hK => ?_) AllReadyH.nil
          go_simp
          refine hK.out _ _ HX1.out.x.below (fun hS6 => ?_)
          clear hK K
          try simp only [Act.put, List.getElem_toArray, List.getElem_cons_succ, List.getElem_cons_zero, List.setIfInBounds_toArray, List.set_cons_zero, List.set_cons_succ]
          refine wpAnyH_take (i := 19) (v := .pointer (some ⟨w2.heap.size, i, none⟩)) rfl (by kernel_rfl) (by kernel_rfl) (by kernel_rfl) (fun _ _ _ h => h) (Or.inl ⟨by rfl, fun w hSw => by go_simp⟩) hS6 ?_
          simp only [Act.put, List.getElem_toArray, List.getElem_cons_succ, List.getElem_cons_zero, List.setIfInBounds_toArray, List.set_cons_zero, List.set_cons_succ]
          refine wpAnyH_ready (rs := [20]) (by kernel_rfl) (by simp) ?_
          refine AllReadyH.cons rfl (fun K hK => ?_) AllReadyH.nil
          go_simp
          refine hK.out _ _ HX2.out.x.below (fun hS7 => ?_)
          clear hK K
          refine wpAnyH_done (by kernel_rfl) ?_ _

          go_wp2_with fail
          go_roundw
          case rel => exact ⟨i + 1, by omega, by go_num, HX2.out⟩
          case measure => simp [intOf]; omega
        · have hin : i = n := by omega
          subst hin
          have HI : Hid (IntsAt wr (some ⟨w2.heap.size + 1, 0, none⟩) X ∧ IntsAt wr (some ⟨w2.heap.size, 0, none⟩) Y ∧ Below w2.heap.size w2 wr) := ⟨Fill.ints (by rw [HXL.out]; exact hf.x) (by rw [HXL.out]; omega) HXR.out, Fill.ints (by rw [HYL.out]; exact hf.y) (by rw [HYL.out]; omega) HYR.out, hf.x.below⟩
          clear hf
          go_wp2_with fail
          go_ret3
          exact ret3_some (xc := i) (yc := i) HR.out (by rw [HXL.out, HYL.out]; rfl) HI.out.1 HI.out.2.1 HI.out.2.2


end Go.Proofs.YtpfkaddammfkkaaDoor
