/- Own text: a subframe's head, bit by bit. the program's readHead. -/
import Derived.Test.YtkhdkmdiblomhaaQ10oft
namespace Go.Proofs.Ytkhdkmdiblomhaa
open Go.RowKit
set_option linter.unusedSimpArgs false
set_option linter.unusedVariables false

theorem put_seven1 : ∀ t : Nat, t < 64 → bitsOf 1 1 ++ bitsOf t 6 = bitsOf (64 + t) 7 := by decide
theorem getE_split (s : ByteArray) (a : Nat) : getE s a 7 = 0 ↔ getE s a 1 = 0 ∧ getE s (getA s a 1) 6 = 0 := by
  have e : ∀ (a k : Nat), k ≤ 64 → (getE s a (k : Int) = 0 ↔ a + k ≤ 8 * s.size) := fun a k hk => by
    unfold getE
    rw [if_neg (by omega), Int.toNat_natCast]
    split <;> omega
  have e7 : getE s a 7 = 0 ↔ a + 7 ≤ 8 * s.size := e a 7 (by decide)
  have e1 : getE s a 1 = 0 ↔ a + 1 ≤ 8 * s.size := e a 1 (by decide)
  constructor
  · intro h
    have h7 := e7.1 h
    have h1 := e1.2 (by omega)
    refine ⟨h1, ?_⟩
    have hA : getA s a 1 = a + 1 := by unfold getA; rw [if_pos h1]; rfl
    rw [hA]
    exact (e (a + 1) 6 (by decide)).2 (by omega)
  · rintro ⟨h1, h6⟩
    have hA : getA s a 1 = a + 1 := by unfold getA; rw [if_pos h1]; rfl
    rw [hA] at h6
    have := (e (a + 1) 6 (by decide)).1 h6
    exact e7.2 (by omega)
theorem getV_split (s : ByteArray) (a : Nat) (h1 : getE s a 1 = 0) (h6 : getE s (getA s a 1) 6 = 0) : getA s (getA s a 1) 6 = getA s a 7 ∧ (getV s a 1 = 0 → getV s a 7 = getV s (getA s a 1) 6) ∧ (¬ getV s a 1 = 0 → 64 ≤ getV s a 7) := by
  have h7 := (getE_split s a).2 ⟨h1, h6⟩
  have hA1 : getA s a 1 = a + 1 := by unfold getA; rw [if_pos h1]; rfl
  have hA7 : getA s a 7 = a + 7 := by unfold getA; rw [if_pos h7]; rfl
  rw [hA1] at h6 ⊢
  have hA6 : getA s (a + 1) 6 = a + 7 := by unfold getA; rw [if_pos h6]; rfl
  have v1 : getV s a 1 = (bitsAt s a 1 : Int) := by unfold getV; rw [if_pos h1]; rfl
  have v6 : getV s (a + 1) 6 = (bitsAt s (a + 1) 6 : Int) := by unfold getV; rw [if_pos h6]; rfl
  have v7 : getV s a 7 = (bitsAt s a 7 : Int) := by unfold getV; rw [if_pos h7]; rfl
  have b1 := getV_bound s a 1
  have b6 := getV_bound s (a + 1) 6
  have p1 : (2 : Int) ^ (1 : Int).toNat = 2 := rfl
  have p6 : (2 : Int) ^ (6 : Int).toNat = 64 := rfl
  rw [p1, v1] at b1
  rw [p6, v6] at b6
  have hsz : a + 7 ≤ 8 * s.size := by
    unfold getE at h7
    rw [if_neg (by decide)] at h7
    split at h7
    · cases h7
    · rename_i hh; exact Nat.le_of_not_lt hh
  have c1 := ahead_cut s a 1 (by omega)
  have c6 := ahead_cut s (a + 1) 6 (by omega)
  rw [c6, ← List.append_assoc] at c1
  refine ⟨by rw [hA6, hA7], fun h0 => ?_, fun h0 => ?_⟩
  · have e0 : bitsAt s a 1 = 0 := by omega
    rw [e0, put_seven _ (by omega)] at c1
    have := bitsAt_ahead s a _ 7 _ c1
    rw [v7, v6, this]
    have e7 : (2 : Nat) ^ 7 = 128 := by decide
    rw [e7]
    omega
  · have e0 : bitsAt s a 1 = 1 := by omega
    rw [e0, put_seven1 _ (by omega)] at c1
    have := bitsAt_ahead s a _ 7 _ c1
    rw [v7, this]
    have e7 : (2 : Nat) ^ 7 = 128 := by decide
    rw [e7]
    omega
theorem kindN_64 (t : Int) (h : 64 ≤ t) : kindN t = none := by
  unfold kindN; rw [if_neg (by omega), if_neg (by omega), if_neg (by omega), if_neg (by omega)]
theorem rdW_wst (s : ByteArray) (a : Nat) (v : Int) (hv : 1 ≤ v) : rdW s a v = match wst s a with
    | none => none
    | some (n, a1) => if n < v then some (n, a1) else none := by
  unfold rdW wst
  by_cases h1 : getE s a 1 = 0
  · rw [if_pos h1, if_pos h1]
    by_cases h2 : getV s a 1 = 1
    · rw [if_pos h2, if_pos h2]
      by_cases h3 : unaE s (getA s a 1) = 0
      · rw [if_pos h3]
        show _ = if unaV s (getA s a 1) + 1 < v then some (unaV s (getA s a 1) + 1, unaA s (getA s a 1)) else none
        by_cases h4 : unaV s (getA s a 1) + 1 < v
        · rw [if_pos ⟨h3, h4⟩, if_pos h4]
        · rw [if_neg (fun h => h4 h.2), if_neg h4]
      · rw [if_neg h3, if_neg (fun h => h3 h.1)]
    · rw [if_neg h2, if_neg h2]
      show _ = if (0 : Int) < v then some ((0 : Int), getA s a 1) else none
      rw [if_pos (by omega)]
  · rw [if_neg h1, if_neg h1]
section
variable (s : ByteArray) (a : Nat) (b v : Int)
theorem rdS_1 (h : ¬ getE s a 1 = 0) : rdSHead s a b v = none := by unfold rdSHead; rw [if_neg (fun h7 => h ((getE_split s a).1 h7).1)]
theorem rdS_2 (h1 : getE s a 1 = 0) (h : ¬ getE s (getA s a 1) 6 = 0) : rdSHead s a b v = none := by unfold rdSHead; rw [if_neg (fun h7 => h ((getE_split s a).1 h7).2)]
theorem rdS_3 (h1 : getE s a 1 = 0) (h : ¬ getV s a 1 = 0) : rdSHead s a b v = none := by
  by_cases h6 : getE s (getA s a 1) 6 = 0
  · unfold rdSHead
    rw [if_pos ((getE_split s a).2 ⟨h1, h6⟩), kindN_64 _ ((getV_split s a h1 h6).2.2 h)]
  · exact rdS_2 s a b v h1 h6
theorem rdS_4 (hv : 1 ≤ v) (h1 : getE s a 1 = 0) (h0 : getV s a 1 = 0) (h6 : getE s (getA s a 1) 6 = 0) : rdSHead s a b v = match ofT (getV s (getA s a 1) 6) b with
    | none => none
    | some (k, o) => match wst s (getA s (getA s a 1) 6) with
      | none => none
      | some (n, a1) => if n < v then some (k, o, n, a1) else none := by
  obtain ⟨g1, g2, _⟩ := getV_split s a h1 h6
  unfold rdSHead ofT
  rw [if_pos ((getE_split s a).2 ⟨h1, h6⟩), g2 h0, g1, rdW_wst s _ v hv]
  cases kindN (getV s (getA s a 1) 6) with
  | none => rfl
  | some p =>
    obtain ⟨k, o⟩ := p
    cases wst s (getA s a 7) with
    | none => simp only; split <;> simp_all
    | some p2 =>
      obtain ⟨n, a1⟩ := p2
      simp only
      by_cases hn : n < v
      · by_cases ho : o ≤ b
        · simp [hn, ho]
        · simp [hn, ho]
      · by_cases ho : o ≤ b
        · simp [hn, ho]
        · simp [hn, ho]
end

structure HDS (w : World) (x : Nat) (s : ByteArray) (a : Nat) (wx : World) : Prop where
  zb : wx.heap[w.heap.size]? = some (.cells (subC ⟨0, 0, 0, 0, 0, [], R0⟩ none 0 none 0 none 0) 26 (0, 0))
  rd : Rd wx x s a
  st : Stays (only x) w wx
  hx : x < w.heap.size
section
variable {w wx w' : World} {x : Nat} {s : ByteArray} {a a' : Nat}
theorem HDS.then_ (h : HDS w x s a wx) (hr : Rd w' x s a') (hS : Stays (only x) wx w') : HDS w x s a' w' :=
  ⟨by rw [hS.block _ (lt_of_block h.zb) (fun e => by have := h.hx; unfold only at e; omega)]; exact h.zb, hr, h.st.trans hS (fun _ _ h => h), h.hx⟩
theorem HDS.low (h : HDS w x s a wx) (hb : Below wx.heap.size wx w') : HDS w x s a w' :=
  ⟨by rw [hb.block _ (lt_of_block h.zb)]; exact h.zb, h.rd.below hb, h.st.trans (Stays.of_below hb (only x)) (fun _ _ h => h), h.hx⟩
end
theorem HDS.start {w : World} {x : Nat} {s : ByteArray} {a : Nat} (h : Rd w x s a) : HDS w x s a (w.alloc (.cells (subC ⟨0, 0, 0, 0, 0, [], R0⟩ none 0 none 0 none 0) 26)) := by
  have hb : Below w.heap.size w (w.alloc (.cells (subC ⟨0, 0, 0, 0, 0, [], R0⟩ none 0 none 0 none 0) 26)) := (Below.refl _ _).alloc (Nat.le_refl _) _
  exact ⟨heap_alloc_new _ _, h.below hb, Stays.of_below hb _, lt_of_block h⟩

end Go.Proofs.Ytkhdkmdiblomhaa

namespace Go.Proofs.Ytkhdkmdiblomhaa
open Go.RowKit
set_option linter.unusedSimpArgs false
set_option linter.unusedVariables false
set_option maxRecDepth 20000 in
set_option maxHeartbeats 3200000 in
theorem s_rhead (x : Nat) (s : ByteArray) (hs : s.size ≤ 1000000000000000000) (a : Nat) (ha : a ≤ 8 * s.size) (b v : Int) (hb : 1 ≤ b) (hv : 1 ≤ v) (w : World) (h : Rd w x s a) :
    Calls Try.prog 26 #[.pointer (some ⟨x, 0, none⟩), .int .i64 b, .int .i64 v] w fun e w' => Stays (only x) w w' ∧ OPost (rdSHead s a b v) (∃ k o n, e = .returned (.tuple #[subV ⟨k, o, n, 0, 0, [], R0⟩ none 0 none 0 none 0, .bool false])) (fun p => e = .returned (.tuple #[subV ⟨p.1, p.2.1, p.2.2.1, 0, 0, [], R0⟩ none 0 none 0 none 0, .bool true]) ∧ Rd w' x s p.2.2.2) := by
  have g1 := getA_le s a 1 ha
  have g6 := getA_le s (getA s a 1) 6 g1
  have KN1 : Hid (∀ wx, Rd wx x s a → Calls Try.prog 41 #[.pointer (some ⟨x, 0, none⟩), .int .i64 1] wx fun en w' => en = .returned (.tuple #[.int .i64 (getV s a 1), .bool (getE s a 1 == 0)]) ∧ Rd w' x s (getA s a 1) ∧ Stays (only x) wx w') := fun wx hh => s_num x s hs a ha 1 (by decide) (by decide) wx hh
  have KN6 : Hid (∀ wx, Rd wx x s (getA s a 1) → Calls Try.prog 41 #[.pointer (some ⟨x, 0, none⟩), .int .i64 6] wx fun en w' => en = .returned (.tuple #[.int .i64 (getV s (getA s a 1) 6), .bool (getE s (getA s a 1) 6 == 0)]) ∧ Rd w' x s (getA s (getA s a 1) 6) ∧ Stays (only x) wx w') := fun wx hh => s_num x s hs (getA s a 1) g1 6 (by decide) (by decide) wx hh
  have H0 : Hid (HDS w x s a (w.alloc (.cells (subC ⟨0, 0, 0, 0, 0, [], R0⟩ none 0 none 0 none 0) 26))) := HDS.start h
  clear h
  by_cases e1 : getE s a 1 = 0
  case neg =>
    have HW : Hid (rdSHead s a b v = none) := rdS_1 s a b v e1
    have hb1 : (getE s a 1 == 0) = false := by rw [beq_eq_false_iff_ne]; assumption
    rw [hb1] at KN1
    clear hb1 e1
    generalize getV s a 1 = vv at *
    go_enter Try.func26, Try.ntmps26
    go_upto_region 1 with fail
    generalize hwa : World.alloc _ _ = wa at *
    clear hwa
    have kn := KN1.out wa H0.out.rd
    go_wp2_with fail
    refine kn.mono ?_
    rintro e w1 ⟨rfl, h2, h3⟩
    have H1 : Hid (HDS w x s (getA s a 1) w1) := H0.out.then_ h2 h3
    clear kn h2 h3 H0 KN1
    obtain ⟨x0, x1, x2, x3, x4, x5, x6, x7, x8, x9⟩ := sub_cells H1.out.zb
    have fu0 := row_frozen H1.out.zb 0
    have fu1 := row_frozen H1.out.zb 1
    have fu2 := row_frozen H1.out.zb 2
    have fu3 := row_frozen H1.out.zb 3
    have fu4 := row_frozen H1.out.zb 4
    have fu5 := row_frozen H1.out.zb 5
    have fu6 := row_frozen H1.out.zb 6
    have fu7 := row_frozen H1.out.zb 7
    have fu8 := row_frozen H1.out.zb 8
    have fu9 := row_frozen H1.out.zb 9
    go_wp2_with fail
    generalize hwf : World.setCell _ _ _ = wf
    have hH : wf.heap[w.heap.size]? = some (.cells (subC ⟨0, 0, 0, 0, 0, [], R0⟩ none 0 none 0 none 0) 26 (0, 0)) := by rw [← hwf]; exact set10_a _ _ _ _ _ _ _ _ _ _ _ H1.out.zb
    have hS : Stays (only x) w wf := by rw [← hwf]; exact set10_c _ _ _ _ _ _ _ _ _ _ _ _ _ (Or.inr (Nat.le_refl _)) H1.out.st
    refine bodyPost_ret (v := .tuple #[.agg (subC ⟨0, 0, 0, 0, 0, [], R0⟩ none 0 none 0 none 0), .bool false]) ?_ rfl ⟨hS, OPost.none_ HW.out ⟨_, _, _, rfl⟩⟩
    rw [results_two rfl]
    have hld := run_loadVar_row (P := Try.prog) (wf) (w.heap.size) 26 26 (subC ⟨0, 0, 0, 0, 0, [], R0⟩ none 0 none 0 none 0) (0, 0) _ hH Try.underlying26 rfl info_Sub
    simp [asAddr, Result.andThen, hld]
  by_cases v1 : getV s a 1 = 0
  case neg =>
    have HW : Hid (rdSHead s a b v = none) := rdS_3 s a b v e1 v1
    have hvb : (getV s a 1 != 0) = true := by rw [bne_iff_ne]; exact v1
    have hb1 : (getE s a 1 == 0) = true := by rw [beq_iff_eq]; assumption
    rw [hb1] at KN1
    clear hb1 e1 v1
    generalize getV s a 1 = vv at *
    go_enter Try.func26, Try.ntmps26
    go_upto_region 1 with fail
    generalize hwa : World.alloc _ _ = wa at *
    clear hwa
    have kn := KN1.out wa H0.out.rd
    go_wp2_with fail
    refine kn.mono ?_
    rintro e w1 ⟨rfl, h2, h3⟩
    have H1 : Hid (HDS w x s (getA s a 1) w1) := H0.out.then_ h2 h3
    clear kn h2 h3 H0 KN1
    obtain ⟨x0, x1, x2, x3, x4, x5, x6, x7, x8, x9⟩ := sub_cells H1.out.zb
    have fu0 := row_frozen H1.out.zb 0
    have fu1 := row_frozen H1.out.zb 1
    have fu2 := row_frozen H1.out.zb 2
    have fu3 := row_frozen H1.out.zb 3
    have fu4 := row_frozen H1.out.zb 4
    have fu5 := row_frozen H1.out.zb 5
    have fu6 := row_frozen H1.out.zb 6
    have fu7 := row_frozen H1.out.zb 7
    have fu8 := row_frozen H1.out.zb 8
    have fu9 := row_frozen H1.out.zb 9
    go_wp2_with fail
    generalize hwf : World.setCell _ _ _ = wf
    have hH : wf.heap[w.heap.size]? = some (.cells (subC ⟨0, 0, 0, 0, 0, [], R0⟩ none 0 none 0 none 0) 26 (0, 0)) := by rw [← hwf]; exact set10_a _ _ _ _ _ _ _ _ _ _ _ H1.out.zb
    have hS : Stays (only x) w wf := by rw [← hwf]; exact set10_c _ _ _ _ _ _ _ _ _ _ _ _ _ (Or.inr (Nat.le_refl _)) H1.out.st
    refine bodyPost_ret (v := .tuple #[.agg (subC ⟨0, 0, 0, 0, 0, [], R0⟩ none 0 none 0 none 0), .bool false]) ?_ rfl ⟨hS, OPost.none_ HW.out ⟨_, _, _, rfl⟩⟩
    rw [results_two rfl]
    have hld := run_loadVar_row (P := Try.prog) (wf) (w.heap.size) 26 26 (subC ⟨0, 0, 0, 0, 0, [], R0⟩ none 0 none 0 none 0) (0, 0) _ hH Try.underlying26 rfl info_Sub
    simp [asAddr, Result.andThen, hld]
  by_cases e6 : getE s (getA s a 1) 6 = 0
  case neg =>
    have HW : Hid (rdSHead s a b v = none) := rdS_2 s a b v e1 e6
    have hb1 : (getE s a 1 == 0) = true := by rw [beq_iff_eq]; assumption
    have hb6 : (getE s (getA s a 1) 6 == 0) = false := by rw [beq_eq_false_iff_ne]; assumption
    rw [hb1, v1] at KN1
    rw [hb6] at KN6
    clear hb1 hb6 e1 e6 v1
    generalize getV s (getA s a 1) 6 = vv at *
    go_enter Try.func26, Try.ntmps26
    go_upto_region 1 with fail
    generalize hwa : World.alloc _ _ = wa at *
    clear hwa
    have kn := KN1.out wa H0.out.rd
    go_wp2_with fail
    refine kn.mono ?_
    rintro e w1 ⟨rfl, h2, h3⟩
    have H1 : Hid (HDS w x s (getA s a 1) w1) := H0.out.then_ h2 h3
    clear kn h2 h3 H0 KN1
    have kn := KN6.out w1 H1.out.rd
    go_wp2_with fail
    refine kn.mono ?_
    rintro e w2 ⟨rfl, h2, h3⟩
    have H2 : Hid (HDS w x s (getA s (getA s a 1) 6) w2) := H1.out.then_ h2 h3
    clear kn h2 h3 H1 KN6
    obtain ⟨x0, x1, x2, x3, x4, x5, x6, x7, x8, x9⟩ := sub_cells H2.out.zb
    have fu0 := row_frozen H2.out.zb 0
    have fu1 := row_frozen H2.out.zb 1
    have fu2 := row_frozen H2.out.zb 2
    have fu3 := row_frozen H2.out.zb 3
    have fu4 := row_frozen H2.out.zb 4
    have fu5 := row_frozen H2.out.zb 5
    have fu6 := row_frozen H2.out.zb 6
    have fu7 := row_frozen H2.out.zb 7
    have fu8 := row_frozen H2.out.zb 8
    have fu9 := row_frozen H2.out.zb 9
    go_wp2_with fail
    generalize hwf : World.setCell _ _ _ = wf
    have hH : wf.heap[w.heap.size]? = some (.cells (subC ⟨0, 0, 0, 0, 0, [], R0⟩ none 0 none 0 none 0) 26 (0, 0)) := by rw [← hwf]; exact set10_a _ _ _ _ _ _ _ _ _ _ _ H2.out.zb
    have hS : Stays (only x) w wf := by rw [← hwf]; exact set10_c _ _ _ _ _ _ _ _ _ _ _ _ _ (Or.inr (Nat.le_refl _)) H2.out.st
    refine bodyPost_ret (v := .tuple #[.agg (subC ⟨0, 0, 0, 0, 0, [], R0⟩ none 0 none 0 none 0), .bool false]) ?_ rfl ⟨hS, OPost.none_ HW.out ⟨_, _, _, rfl⟩⟩
    rw [results_two rfl]
    have hld := run_loadVar_row (P := Try.prog) (wf) (w.heap.size) 26 26 (subC ⟨0, 0, 0, 0, 0, [], R0⟩ none 0 none 0 none 0) (0, 0) _ hH Try.underlying26 rfl info_Sub
    simp [asAddr, Result.andThen, hld]
  have HW := rdS_4 s a b v hv e1 v1 e6
  have bt := getV_bound s (getA s a 1) 6
  have p6 : (2 : Int) ^ (6 : Int).toNat = 64 := rfl
  rw [p6] at bt
  have hb1 : (getE s a 1 == 0) = true := by rw [beq_iff_eq]; assumption
  have hb6 : (getE s (getA s a 1) 6 == 0) = true := by rw [beq_iff_eq]; assumption
  rw [hb1, v1] at KN1
  rw [hb6] at KN6
  clear hb1 hb6 e1 e6 v1 p6

  have ko := fun wx => s_oftype (getV s (getA s a 1) 6) b bt.1 (by omega) hb wx
  have KW : Hid (∀ wx, Rd wx x s (getA s (getA s a 1) 6) → _) := fun wx hh => s_wasted x s hs (getA s (getA s a 1) 6) g6 wx hh
  have HRG : Hid (∀ n a1, wst s (getA s (getA s a 1) 6) = some (n, a1) → 0 ≤ n ∧ n ≤ 16777217) := fun n a1 hh => ⟨(wst_rng hh g6).1, (wst_rng hh g6).2.1⟩
  clear bt g6
  generalize getV s (getA s a 1) 6 = t at *
  cases hT : ofT t b with
  | none =>
    have HW2 : Hid (rdSHead s a b v = none) := by show _ = _; rw [HW, hT]
    have KO : Hid (∀ wx, Calls Try.prog 42 #[.int .i64 t, .int .i64 b] wx fun e w' => Below wx.heap.size wx w' ∧ ∃ k o, e = .returned (.tuple #[subV ⟨k, o, 0, 0, 0, [], R0⟩ none 0 none 0 none 0, .bool false])) := fun wx => (ko wx).mono fun e w' hh => by
      obtain ⟨h1, h2⟩ := hh
      rw [hT] at h2
      exact ⟨h1, h2⟩
    clear ko HW hT KW HRG
    go_enter Try.func26, Try.ntmps26
    go_upto_region 1 with fail
    generalize hwa : World.alloc _ _ = wa at *
    clear hwa
    have kn := KN1.out wa H0.out.rd
    go_wp2_with fail
    refine kn.mono ?_
    rintro e w1 ⟨rfl, h2, h3⟩
    have H1 : Hid (HDS w x s (getA s a 1) w1) := H0.out.then_ h2 h3
    clear kn h2 h3 H0 KN1
    have kn := KN6.out w1 H1.out.rd
    go_wp2_with fail
    refine kn.mono ?_
    rintro e w2 ⟨rfl, h2, h3⟩
    have H2 : Hid (HDS w x s (getA s (getA s a 1) 6) w2) := H1.out.then_ h2 h3
    clear kn h2 h3 H1 KN6
    have k3 := KO.out w2
    go_wp2_with fail
    refine k3.mono ?_
    rintro e w3 ⟨hb3, k, o, rfl⟩
    have H3 : Hid (∀ ob, HDS w x s (getA s (getA s a 1) 6) (w3.alloc ob)) := fun ob => (H2.out.low hb3).low ((Below.refl _ _).alloc (Nat.le_refl _) _)
    clear hb3 k3 KO H2
    go_upto_region 8 with fail
    generalize hwb : World.alloc _ _ = wb at *
    have H4 : Hid (HDS w x s (getA s (getA s a 1) 6) wb) := by rw [← hwb]; exact H3.out _
    clear hwb H3
    obtain ⟨x0, x1, x2, x3, x4, x5, x6, x7, x8, x9⟩ := sub_cells H4.out.zb
    have fu0 := row_frozen H4.out.zb 0
    have fu1 := row_frozen H4.out.zb 1
    have fu2 := row_frozen H4.out.zb 2
    have fu3 := row_frozen H4.out.zb 3
    have fu4 := row_frozen H4.out.zb 4
    have fu5 := row_frozen H4.out.zb 5
    have fu6 := row_frozen H4.out.zb 6
    have fu7 := row_frozen H4.out.zb 7
    have fu8 := row_frozen H4.out.zb 8
    have fu9 := row_frozen H4.out.zb 9
    go_wp2_with fail
    generalize hwf : World.setCell _ _ _ = wf
    have hH : wf.heap[w.heap.size]? = some (.cells (subC ⟨0, 0, 0, 0, 0, [], R0⟩ none 0 none 0 none 0) 26 (0, 0)) := by rw [← hwf]; exact set10_a _ _ _ _ _ _ _ _ _ _ _ H4.out.zb
    have hS : Stays (only x) w wf := by rw [← hwf]; exact set10_c _ _ _ _ _ _ _ _ _ _ _ _ _ (Or.inr (Nat.le_refl _)) H4.out.st
    refine bodyPost_ret (v := .tuple #[.agg (subC ⟨0, 0, 0, 0, 0, [], R0⟩ none 0 none 0 none 0), .bool false]) ?_ rfl ⟨hS, OPost.none_ HW2.out ⟨_, _, _, rfl⟩⟩
    rw [results_two rfl]
    have hld := run_loadVar_row (P := Try.prog) (wf) (w.heap.size) 26 26 (subC ⟨0, 0, 0, 0, 0, [], R0⟩ none 0 none 0 none 0) (0, 0) _ hH Try.underlying26 rfl info_Sub
    simp [asAddr, Result.andThen, hld]
  | some p =>
    obtain ⟨k, o⟩ := p
    rw [hT] at HW
    have KO : Hid (∀ wx, Calls Try.prog 42 #[.int .i64 t, .int .i64 b] wx fun e w' => Below wx.heap.size wx w' ∧ e = .returned (.tuple #[subV ⟨k, o, 0, 0, 0, [], R0⟩ none 0 none 0 none 0, .bool true])) := fun wx => (ko wx).mono fun e w' hh => by
      obtain ⟨h1, h2⟩ := hh
      rw [hT] at h2
      exact ⟨h1, h2⟩
    clear ko hT
    have HWW : Hid (rdSHead s a b v = match wst s (getA s (getA s a 1) 6) with
      | none => none
      | some (n, a1) => if n < v then some (k, o, n, a1) else none) := HW
    clear HW
    go_enter Try.func26, Try.ntmps26
    go_upto_region 1 with fail
    generalize hwa : World.alloc _ _ = wa at *
    clear hwa
    have kn := KN1.out wa H0.out.rd
    go_wp2_with fail
    refine kn.mono ?_
    rintro e w1 ⟨rfl, h2, h3⟩
    have H1 : Hid (HDS w x s (getA s a 1) w1) := H0.out.then_ h2 h3
    clear kn h2 h3 H0 KN1
    have kn := KN6.out w1 H1.out.rd
    go_wp2_with fail
    refine kn.mono ?_
    rintro e w2 ⟨rfl, h2, h3⟩
    have H2 : Hid (HDS w x s (getA s (getA s a 1) 6) w2) := H1.out.then_ h2 h3
    clear kn h2 h3 H1 KN6
    have k3 := KO.out w2
    go_wp2_with fail
    refine k3.mono ?_
    rintro e w3 ⟨hb3, rfl⟩
    have H3 : Hid (HDS w x s (getA s (getA s a 1) 6) (w3.alloc (.cells (subC ⟨k, o, 0, 0, 0, [], R0⟩ none 0 none 0 none 0) 26)) ∧ (w3.alloc (.cells (subC ⟨k, o, 0, 0, 0, [], R0⟩ none 0 none 0 none 0) 26)).heap[w3.heap.size]? = some (.cells (subC ⟨k, o, 0, 0, 0, [], R0⟩ none 0 none 0 none 0) 26 (0, 0)) ∧ w.heap.size < w3.heap.size) := ⟨(H2.out.low hb3).low ((Below.refl _ _).alloc (Nat.le_refl _) _), heap_alloc_new _ _, lt_of_block (H2.out.low hb3).zb⟩
    clear hb3 k3 KO H2
    go_upto_region 8 with fail
    generalize hwb : World.alloc _ _ = wb at *
    have H4 : Hid (HDS w x s (getA s (getA s a 1) 6) wb ∧ wb.heap[w3.heap.size]? = some (.cells (subC ⟨k, o, 0, 0, 0, [], R0⟩ none 0 none 0 none 0) 26 (0, 0)) ∧ w.heap.size < w3.heap.size) := H3.out
    clear hwb H3
    generalize w3.heap.size = g at *
    have kw := KW.out wb H4.out.1.rd
    clear KW
    go_wp2_with fail
    refine kw.mono ?_
    rintro e w5 ⟨hs5, hw5⟩
    have hxg : ¬ only x g := fun e => by have h1 := H4.out.1.hx; have h2 := H4.out.2.2; have h3 : g = x := e; omega
    have hg5 : w5.heap[g]? = some (.cells (subC ⟨k, o, 0, 0, 0, [], R0⟩ none 0 none 0 none 0) 26 (0, 0)) := by rw [hs5.block _ (lt_of_block H4.out.2.1) hxg]; exact H4.out.2.1
    have hz5 : w5.heap[w.heap.size]? = some (.cells (subC ⟨0, 0, 0, 0, 0, [], R0⟩ none 0 none 0 none 0) 26 (0, 0)) := by rw [hs5.block _ (lt_of_block H4.out.1.zb) (fun e => by have h1 := H4.out.1.hx; have h3 : w.heap.size = x := e; omega)]; exact H4.out.1.zb
    have HS5 : Hid (Stays (only x) w w5) := H4.out.1.st.trans hs5 (fun _ _ h => h)
    have hgw : w.heap.size < g := H4.out.2.2
    have hxw : x < w.heap.size := H4.out.1.hx
    clear kw H4 hs5 hxg
    cases hWS : wst s (getA s (getA s a 1) 6) with
    | none =>
      rw [hWS] at hw5
      obtain ⟨n, rfl⟩ := hw5
      have HWF : Hid (rdSHead s a b v = none) := by show _ = _; rw [HWW.out, hWS]
      clear hWS HWW HRG
      obtain ⟨y0, y1, y2, y3, y4, y5, y6, y7, y8, y9⟩ := sub_cells hg5
      have fy2 := row_frozen hg5 2
      go_upto_region 11 with fail
      generalize hwm : World.setCell _ _ _ = wm at *
      have hgm : wm.heap[g]? = some (.cells (subC ⟨k, o, n, 0, 0, [], R0⟩ none 0 none 0 none 0) 26 (0, 0)) := by rw [← hwm, block_setCell _ _ _ _ _ _ hg5]; rfl
      have hzm : wm.heap[w.heap.size]? = some (.cells (subC ⟨0, 0, 0, 0, 0, [], R0⟩ none 0 none 0 none 0) 26 (0, 0)) := by rw [← hwm, Below.heap_setCell _ _ _ _ (by show w.heap.size ≠ g; omega)]; exact hz5
      have HSM : Hid (Stays (only x) w wm) := by rw [← hwm]; exact HS5.out.setCell _ _ (Or.inr (by show w.heap.size ≤ g; omega))
      clear y0 y1 y2 y3 y4 y5 y6 y7 y8 y9 fy2 hwm hg5 hz5 HS5
      obtain ⟨y0, y1, y2, y3, y4, y5, y6, y7, y8, y9⟩ := sub_cells hgm
      obtain ⟨x0, x1, x2, x3, x4, x5, x6, x7, x8, x9⟩ := sub_cells hzm
      have fu0 := row_frozen hzm 0
      have fu1 := row_frozen hzm 1
      have fu2 := row_frozen hzm 2
      have fu3 := row_frozen hzm 3
      have fu4 := row_frozen hzm 4
      have fu5 := row_frozen hzm 5
      have fu6 := row_frozen hzm 6
      have fu7 := row_frozen hzm 7
      have fu8 := row_frozen hzm 8
      have fu9 := row_frozen hzm 9
      have hgn : ¬ g = w.heap.size := by omega
      have hgn2 : ¬ w.heap.size = g := by omega
      have HZM : Hid (wm.heap[w.heap.size]? = some (.cells (subC ⟨0, 0, 0, 0, 0, [], R0⟩ none 0 none 0 none 0) 26 (0, 0))) := hzm
      clear hgm hzm
      go_region
      go_wp2_with fail
      generalize hwf : World.setCell _ _ _ = wf
      have hH0 : wf.heap[w.heap.size]? = some (.cells (subC ⟨k, o, n, 0, 0, [], R0⟩ none 0 none 0 none 0) 26 (0, 0)) := by rw [← hwf]; exact set10_a _ _ _ _ _ _ _ _ _ _ _ HZM.out
      have hH : wf.drew.heap[w.heap.size]? = some (.cells (subC ⟨k, o, n, 0, 0, [], R0⟩ none 0 none 0 none 0) 26 (0, 0)) := hH0
      have hS0 : Stays (only x) w wf := by rw [← hwf]; exact set10_c _ _ _ _ _ _ _ _ _ _ _ _ _ (Or.inr (Nat.le_refl _)) HSM.out
      have hS : Stays (only x) w wf.drew := hS0.drew
      refine bodyPost_ret (v := .tuple #[.agg (subC ⟨k, o, n, 0, 0, [], R0⟩ none 0 none 0 none 0), .bool false]) ?_ rfl ⟨hS, OPost.none_ HWF.out ⟨_, _, _, rfl⟩⟩
      rw [results_two rfl]
      have hld := run_loadVar_row (P := Try.prog) (wf.drew) (w.heap.size) 26 26 (subC ⟨k, o, n, 0, 0, [], R0⟩ none 0 none 0 none 0) (0, 0) _ hH Try.underlying26 rfl info_Sub
      simp [asAddr, Result.andThen, hld]
      all_goals omega

    | some p =>
      obtain ⟨n, a1⟩ := p
      rw [hWS] at hw5
      obtain ⟨rfl, hrd⟩ := hw5
      have hwr := HRG.out n a1 hWS
      have HRD : Hid (Rd w5 x s a1) := hrd
      by_cases hnv : n < v
      · have HWF : Hid (rdSHead s a b v = some (k, o, n, a1)) := by
          show _ = _
          rw [HWW.out, hWS]
          exact if_pos hnv
        clear hWS HWW HRG hrd
        obtain ⟨y0, y1, y2, y3, y4, y5, y6, y7, y8, y9⟩ := sub_cells hg5
        have fy2 := row_frozen hg5 2
        go_upto_region 11 with fail
        generalize hwm : World.setCell _ _ _ = wm at *
        have hgm : wm.heap[g]? = some (.cells (subC ⟨k, o, n, 0, 0, [], R0⟩ none 0 none 0 none 0) 26 (0, 0)) := by rw [← hwm, block_setCell _ _ _ _ _ _ hg5]; rfl
        have hzm : wm.heap[w.heap.size]? = some (.cells (subC ⟨0, 0, 0, 0, 0, [], R0⟩ none 0 none 0 none 0) 26 (0, 0)) := by rw [← hwm, Below.heap_setCell _ _ _ _ (by show w.heap.size ≠ g; omega)]; exact hz5
        have HSM : Hid (Stays (only x) w wm) := by rw [← hwm]; exact HS5.out.setCell _ _ (Or.inr (by show w.heap.size ≤ g; omega))
        have HRM : Hid (Rd wm x s a1) := by
          have h := HRD.out
          unfold Rd at h
          show Rd _ _ _ _
          unfold Rd
          rw [← hwm, Below.heap_setCell _ _ _ _ (by show x ≠ g; omega)]; exact h
        clear y0 y1 y2 y3 y4 y5 y6 y7 y8 y9 fy2 hwm hg5 hz5 HS5
        obtain ⟨y0, y1, y2, y3, y4, y5, y6, y7, y8, y9⟩ := sub_cells hgm
        obtain ⟨x0, x1, x2, x3, x4, x5, x6, x7, x8, x9⟩ := sub_cells hzm
        have fu0 := row_frozen hzm 0
        have fu1 := row_frozen hzm 1
        have fu2 := row_frozen hzm 2
        have fu3 := row_frozen hzm 3
        have fu4 := row_frozen hzm 4
        have fu5 := row_frozen hzm 5
        have fu6 := row_frozen hzm 6
        have fu7 := row_frozen hzm 7
        have fu8 := row_frozen hzm 8
        have fu9 := row_frozen hzm 9
        have hgn : ¬ g = w.heap.size := by omega
        have hgn2 : ¬ w.heap.size = g := by omega
        have HZM : Hid (wm.heap[w.heap.size]? = some (.cells (subC ⟨0, 0, 0, 0, 0, [], R0⟩ none 0 none 0 none 0) 26 (0, 0))) := hzm
        clear hgm hzm
        go_region
        go_wp2_with fail
        generalize hwf : World.setCell _ _ _ = wf
        have hH0 : wf.heap[w.heap.size]? = some (.cells (subC ⟨k, o, n, 0, 0, [], R0⟩ none 0 none 0 none 0) 26 (0, 0)) := by rw [← hwf]; exact set10_a _ _ _ _ _ _ _ _ _ _ _ HZM.out
        have hH : wf.drew.heap[w.heap.size]? = some (.cells (subC ⟨k, o, n, 0, 0, [], R0⟩ none 0 none 0 none 0) 26 (0, 0)) := hH0
        have hS0 : Stays (only x) w wf := by rw [← hwf]; exact set10_c _ _ _ _ _ _ _ _ _ _ _ _ _ (Or.inr (Nat.le_refl _)) HSM.out
        have hS : Stays (only x) w wf.drew := hS0.drew
        have hR : Rd wf.drew x s a1 := by
          have h := HRM.out
          unfold Rd at h ⊢
          show wf.heap[x]? = _
          rw [← hwf, set10_d _ _ _ _ _ _ _ _ _ _ _ _ (by omega)]; exact h
        refine bodyPost_ret (v := .tuple #[.agg (subC ⟨k, o, n, 0, 0, [], R0⟩ none 0 none 0 none 0), .bool true]) ?_ rfl ⟨hS, OPost.some_ HWF.out ⟨rfl, hR⟩⟩
        rw [results_two rfl]
        have hld := run_loadVar_row (P := Try.prog) (wf.drew) (w.heap.size) 26 26 (subC ⟨k, o, n, 0, 0, [], R0⟩ none 0 none 0 none 0) (0, 0) _ hH Try.underlying26 rfl info_Sub
        simp [asAddr, Result.andThen, hld]
        all_goals omega

      · have HWF : Hid (rdSHead s a b v = none) := by
          show _ = _
          rw [HWW.out, hWS]
          exact if_neg hnv
        clear hWS HWW HRG hrd
        obtain ⟨y0, y1, y2, y3, y4, y5, y6, y7, y8, y9⟩ := sub_cells hg5
        have fy2 := row_frozen hg5 2
        go_upto_region 11 with fail
        generalize hwm : World.setCell _ _ _ = wm at *
        have hgm : wm.heap[g]? = some (.cells (subC ⟨k, o, n, 0, 0, [], R0⟩ none 0 none 0 none 0) 26 (0, 0)) := by rw [← hwm, block_setCell _ _ _ _ _ _ hg5]; rfl
        have hzm : wm.heap[w.heap.size]? = some (.cells (subC ⟨0, 0, 0, 0, 0, [], R0⟩ none 0 none 0 none 0) 26 (0, 0)) := by rw [← hwm, Below.heap_setCell _ _ _ _ (by show w.heap.size ≠ g; omega)]; exact hz5
        have HSM : Hid (Stays (only x) w wm) := by rw [← hwm]; exact HS5.out.setCell _ _ (Or.inr (by show w.heap.size ≤ g; omega))
        clear y0 y1 y2 y3 y4 y5 y6 y7 y8 y9 fy2 hwm hg5 hz5 HS5
        obtain ⟨y0, y1, y2, y3, y4, y5, y6, y7, y8, y9⟩ := sub_cells hgm
        obtain ⟨x0, x1, x2, x3, x4, x5, x6, x7, x8, x9⟩ := sub_cells hzm
        have fu0 := row_frozen hzm 0
        have fu1 := row_frozen hzm 1
        have fu2 := row_frozen hzm 2
        have fu3 := row_frozen hzm 3
        have fu4 := row_frozen hzm 4
        have fu5 := row_frozen hzm 5
        have fu6 := row_frozen hzm 6
        have fu7 := row_frozen hzm 7
        have fu8 := row_frozen hzm 8
        have fu9 := row_frozen hzm 9
        have hgn : ¬ g = w.heap.size := by omega
        have hgn2 : ¬ w.heap.size = g := by omega
        have HZM : Hid (wm.heap[w.heap.size]? = some (.cells (subC ⟨0, 0, 0, 0, 0, [], R0⟩ none 0 none 0 none 0) 26 (0, 0))) := hzm
        clear hgm hzm
        go_region
        go_wp2_with fail
        generalize hwf : World.setCell _ _ _ = wf
        have hH0 : wf.heap[w.heap.size]? = some (.cells (subC ⟨k, o, n, 0, 0, [], R0⟩ none 0 none 0 none 0) 26 (0, 0)) := by rw [← hwf]; exact set10_a _ _ _ _ _ _ _ _ _ _ _ HZM.out
        have hH : wf.drew.heap[w.heap.size]? = some (.cells (subC ⟨k, o, n, 0, 0, [], R0⟩ none 0 none 0 none 0) 26 (0, 0)) := hH0
        have hS0 : Stays (only x) w wf := by rw [← hwf]; exact set10_c _ _ _ _ _ _ _ _ _ _ _ _ _ (Or.inr (Nat.le_refl _)) HSM.out
        have hS : Stays (only x) w wf.drew := hS0.drew
        refine bodyPost_ret (v := .tuple #[.agg (subC ⟨k, o, n, 0, 0, [], R0⟩ none 0 none 0 none 0), .bool false]) ?_ rfl ⟨hS, OPost.none_ HWF.out ⟨_, _, _, rfl⟩⟩
        rw [results_two rfl]
        have hld := run_loadVar_row (P := Try.prog) (wf.drew) (w.heap.size) 26 26 (subC ⟨k, o, n, 0, 0, [], R0⟩ none 0 none 0 none 0) (0, 0) _ hH Try.underlying26 rfl info_Sub
        simp [asAddr, Result.andThen, hld]
        all_goals omega


end Go.Proofs.Ytkhdkmdiblomhaa
