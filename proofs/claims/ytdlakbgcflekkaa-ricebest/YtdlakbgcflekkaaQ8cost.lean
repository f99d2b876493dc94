/- Own text: the bits of residuals, reckoned by both. -/
import Derived.Test.YtdlakbgcflekkaaQ8cut
namespace Go.Proofs.Ytdlakbgcflekkaa
open Go.RowKit
set_option linter.unusedSimpArgs false
set_option linter.unusedVariables false

theorem qfolded_spec (n : Int) (h1 : -9223372036854775808 ≤ n) (h2 : n ≤ 9223372036854775807) (w : World) :
    Calls Try.prog 54 #[.int .i64 n] w fun e w' => e = .returned (.int .u64 (foldN n : Int)) ∧ w' = w := by
  by_cases h0 : 0 ≤ n
  · go_enter Try.func54, Try.ntmps54
    go_wp2
    go_ret
    refine ⟨ret_int ?_, rfl⟩
    rw [foldN_pos n h0, show n / 9223372036854775808 = ((0 : Nat) : Int) from by omega, show n * 2 = (((2 * n).toNat : Nat) : Int) from by omega, u64_xor_nat _ _ (by omega) (by omega), Nat.xor_zero]
    omega
  · go_enter Try.func54, Try.ntmps54
    go_wp2
    go_ret
    refine ⟨ret_int ?_, rfl⟩
    have e1 : IntKind.u64.wrap (IntKind.u64.wrap n * 2) = (((18446744073709551616 + 2 * n).toNat : Nat) : Int) := by
      rw [IntKind.wrap_u64, IntKind.wrap_u64]; omega
    have e2 : IntKind.u64.wrap (n / 9223372036854775808) = ((18446744073709551615 : Nat) : Int) := by
      rw [IntKind.wrap_u64]; omega
    rw [foldN_neg n (by omega), e1, e2, u64_xor_nat _ _ (by omega) (by omega), xor_ones _ (by omega)]
    omega

theorem IntsAt.at {w : World} {ao : Option Addr} {l : List Int} (h : IntsAt w ao l) (k : Nat) (hk : k < l.length) :
    ∃ b off, ao = some ⟨b, off, none⟩ ∧ (∀ w', Below w.heap.size w w' → w'.cell? ⟨b, off + k, none⟩ = some (.int .i64 (l.getD k 0))) := by
  obtain ⟨b, off, e, hc⟩ := h.lies (by omega)
  refine ⟨b, off, e, fun w' hb => ?_⟩
  have h1 := hc k hk
  rw [World.cell?_of_block (w := w) (hb.block b (lt_cell h1))]
  exact h1
theorem getD_mem (l : List Int) (k : Nat) (h : k < l.length) : l.getD k 0 ∈ l := by
  rw [List.getD_eq_getElem?_getD, List.getElem?_eq_getElem h]; exact List.getElem_mem h
theorem take_snoc (l : List Int) (k : Nat) (h : k < l.length) : l.take (k + 1) = l.take k ++ [l.getD k 0] := by
  rw [List.take_add_one, List.getElem?_eq_getElem h, List.getD_eq_getElem?_getD, List.getElem?_eq_getElem h]; rfl
/-- Residuals such as take no long codes. -/
def ShX (l : List Int) : Prop := (∀ x ∈ l, -4000 ≤ x ∧ x ≤ 4000) ∧ l.length ≤ 5000
def oneC (k : Nat) (x : Int) : Nat := foldN x / 2 ^ k + 1 + k
def costN (l : List Int) (k : Nat) : Nat := (l.map (oneC k)).sum
theorem costN_nil (k : Nat) : costN [] k = 0 := rfl
theorem costN_append (l m : List Int) (k : Nat) : costN (l ++ m) k = costN l k + costN m k := by unfold costN; rw [List.map_append, List.sum_append]
theorem costN_snoc (l : List Int) (x : Int) (k : Nat) : costN (l ++ [x]) k = costN l k + oneC k x := by rw [costN_append]; simp [costN]
theorem fold_small (x : Int) (h : -4000 ≤ x ∧ x ≤ 4000) : foldN x ≤ 8000 := by
  rcases (show x < 0 ∨ 0 ≤ x by omega) with h1 | h1
  · have := foldN_neg x h1; omega
  · have := foldN_pos x h1; omega
theorem fold_div (x : Int) (h : -4000 ≤ x ∧ x ≤ 4000) (k : Nat) : foldN x / 2 ^ k ≤ 8000 := Nat.le_trans (Nat.div_le_self _ _) (fold_small x h)
theorem costN_le (l : List Int) (k : Nat) (hk : k ≤ 30) (h : ∀ x ∈ l, -4000 ≤ x ∧ x ≤ 4000) : costN l k ≤ 8031 * l.length := by
  induction l with
  | nil => simp [costN]
  | cons x t ih =>
    have h1 := ih (fun y hy => h y (List.mem_cons_of_mem _ hy))
    have h2 := fold_div x (h x (List.mem_cons_self ..)) k
    have : costN (x :: t) k = oneC k x + costN t k := by simp [costN]
    rw [this, List.length_cons]; unfold oneC; omega
theorem ShX.take {l : List Int} (h : ShX l) (n : Nat) : ShX (l.take n) := ⟨fun x hx => h.1 x (List.mem_of_mem_take hx), by have := h.2; rw [List.length_take]; omega⟩
theorem ShX.drop {l : List Int} (h : ShX l) (n : Nat) : ShX (l.drop n) := ⟨fun x hx => h.1 x (List.mem_of_mem_drop hx), by have := h.2; rw [List.length_drop]; omega⟩
theorem ShX.part {l : List Int} (h : ShX l) (b o r i : Nat) : ShX (partN l b o r i) := (h.drop _).take _
def costI (l : List Int) (k : Int) : Int := if k < 0 ∨ 30 < k then -1 else (costN l k.toNat : Int)
theorem ShX.cost {l : List Int} (h : ShX l) (k : Nat) (hk : k ≤ 30) : costN l k ≤ 40155000 := by
  have := costN_le l k hk h.1; have := h.2; omega
set_option maxRecDepth 20000 in
set_option maxHeartbeats 3200000 in
theorem cost_spec (l : List Int) (k : Int) (ao : Option Addr) (cap : Nat) (hs : ShX l) (w : World) (hl : IntsAt w ao l) :
    Calls Try.prog 28 #[.slice ao l.length cap, .int .i64 k] w fun e w' => e = .returned (.int .i64 (costI l k)) ∧ ∃ n, w' = w.drewN n := by
  by_cases h0 : k < 0
  · have HC : Hid (costI l k = -1) := by show _ = _; unfold costI; rw [if_pos (Or.inl h0)]
    clear hs hl
    go_enter Try.func28, Try.ntmps28
    go_wp2_with fail
    go_ret
    exact ⟨by rw [HC.out]; rfl, 0, rfl⟩
  by_cases h1 : 30 < k
  · have HC : Hid (costI l k = -1) := by show _ = _; unfold costI; rw [if_pos (Or.inr h1)]
    clear hs hl
    go_enter Try.func28, Try.ntmps28
    go_wp2_with fail
    go_ret
    exact ⟨by rw [HC.out]; rfl, 0, rfl⟩
  obtain ⟨k, rfl⟩ : ∃ k' : Nat, k = k' := ⟨k.toNat, by omega⟩
  have HC : Hid (costI l (k : Int) = (costN l k : Int)) := by show _ = _; unfold costI; rw [if_neg (by omega)]; rfl
  have HL : Hid (IntsAt w ao l) := hl
  have HS : Hid (ShX l) := hs
  have h2 := hl.len
  have h5 := hs.2
  clear hl hs
  go_enter Try.func28, Try.ntmps28
  go_wp2_with fail
  go_loopw [5, 7, 8, 17] (fun s5 s7 s8 s17 wr => ∃ j n : Nat, j ≤ l.length ∧ s17 = .int .i64 (j : Int) ∧ s5 = .int .i64 ((costN (l.take j) k : Nat) : Int) ∧ wr = w.drewN n) (fun _ _ _ s17 _ => l.length - (intOf s17).toNat)
  case atStart => exact ⟨0, 0, Nat.zero_le _, rfl, rfl, rfl⟩
  case round =>
    obtain ⟨j, n, hj, rfl, rfl, rfl⟩ := hrel
    by_cases hlt : j < l.length
    · obtain ⟨b1, o1, rfl, q1⟩ := HL.out.at j hlt
      have r1 := q1 (w.drewN n) (below_drewN _ _)
      have hx := HS.out.1 _ (getD_mem l j hlt)
      have HN : Hid (costN (l.take (j + 1)) k = costN (l.take j) k + oneC k (l.getD j 0)) := by show _ = _; rw [take_snoc l j hlt, costN_snoc]
      have hc := (HS.out.take j).cost k (by omega)
      clear q1
      generalize l.getD j 0 = x at *
      have hf := fold_div x hx k
      have kf := qfolded_spec x (by omega) (by omega) (w.drewN n)
      have kfl := foldN_lt x (by omega) (by omega)
      have hdc := div_cast (foldN x) k
      generalize hq : foldN x / 2 ^ k = q at *
      have HQ : Hid (oneC k x = q + 1 + k) := by show _ = _; unfold oneC; rw [hq]
      clear hq
      generalize costN (l.take j) k = s at *
      generalize hfx : foldN x = fx at *
      clear hfx
      go_wp2_with fail
      refine kf.mono ?_
      rintro e w4 ⟨rfl, rfl⟩
      go_wp2_with fail
      go_roundw
      case rel => exact ⟨j + 1, n, by omega, by go_num, by rw [HN.out, HQ.out]; go_num, rfl⟩
      case measure => simp [intOf]; omega
    · have HE : Hid (l.take j = l) := List.take_of_length_le (by omega)
      go_wp2_with fail
      go_ret
      exact ⟨by rw [HC.out, HE.out]; rfl, n, rfl⟩
set_option maxRecDepth 20000 in
set_option maxHeartbeats 3200000 in
theorem xcost_spec (l : List Int) (k : Int) (ao : Option Addr) (cap : Nat) (hs : ShX l) (w : World) (hl : IntsAt w ao l) :
    Calls Try.prog 29 #[.slice ao l.length cap, .int .i64 k] w fun e w' => e = .returned (.int .i64 (costI l k)) ∧ ∃ n, w' = w.drewN n := by
  by_cases h0 : k < 0
  · have HC : Hid (costI l k = -1) := by show _ = _; unfold costI; rw [if_pos (Or.inl h0)]
    clear hs hl
    go_enter Try.func29, Try.ntmps29
    go_wp2_with fail
    go_ret
    exact ⟨by rw [HC.out]; rfl, 0, rfl⟩
  by_cases h1 : 30 < k
  · have HC : Hid (costI l k = -1) := by show _ = _; unfold costI; rw [if_pos (Or.inr h1)]
    clear hs hl
    go_enter Try.func29, Try.ntmps29
    go_wp2_with fail
    go_ret
    exact ⟨by rw [HC.out]; rfl, 0, rfl⟩
  obtain ⟨k, rfl⟩ : ∃ k' : Nat, k = k' := ⟨k.toNat, by omega⟩
  have HC : Hid (costI l (k : Int) = (costN l k : Int)) := by show _ = _; unfold costI; rw [if_neg (by omega)]; rfl
  have HL : Hid (IntsAt w ao l) := hl
  have HS : Hid (ShX l) := hs
  have h2 := hl.len
  have h5 := hs.2
  clear hl hs
  go_enter Try.func29, Try.ntmps29
  go_wp2_with fail
  go_loopw [5, 6, 7] (fun s5 s6 s7 wr => ∃ j n : Nat, j ≤ l.length ∧ s6 = .int .i64 (j : Int) ∧ s5 = .int .i64 ((costN (l.take j) k : Nat) : Int) ∧ wr = w.drewN n) (fun _ s6 _ _ => l.length - (intOf s6).toNat)
  case atStart => exact ⟨0, 0, Nat.zero_le _, rfl, rfl, rfl⟩
  case round =>
    obtain ⟨j, n, hj, rfl, rfl, rfl⟩ := hrel
    by_cases hlt : j < l.length
    · obtain ⟨b1, o1, rfl, q1⟩ := HL.out.at j hlt
      have r1 := q1 (w.drewN n) (below_drewN _ _)
      have hx := HS.out.1 _ (getD_mem l j hlt)
      have HN : Hid (costN (l.take (j + 1)) k = costN (l.take j) k + oneC k (l.getD j 0)) := by show _ = _; rw [take_snoc l j hlt, costN_snoc]
      have hc := (HS.out.take j).cost k (by omega)
      clear q1
      generalize l.getD j 0 = x at *
      have hf := fold_div x hx k
      have kf := fold_spec x (by omega) (by omega) (w.drewN n)
      have kfl := foldN_lt x (by omega) (by omega)
      have hdc := div_cast (foldN x) k
      generalize hq : foldN x / 2 ^ k = q at *
      have HQ : Hid (oneC k x = q + 1 + k) := by show _ = _; unfold oneC; rw [hq]
      clear hq
      generalize costN (l.take j) k = s at *
      generalize hfx : foldN x = fx at *
      clear hfx
      go_wp2_with fail
      refine kf.mono ?_
      rintro e w4 ⟨rfl, rfl⟩
      go_wp2_with fail
      go_roundw
      case rel => exact ⟨j + 1, n, by omega, by go_num, by rw [HN.out, HQ.out]; go_num, rfl⟩
      case measure => simp [intOf]; omega
    · have HE : Hid (l.take j = l) := List.take_of_length_le (by omega)
      go_wp2_with fail
      go_ret
      exact ⟨by rw [HC.out, HE.out]; rfl, n, rfl⟩
theorem fit_sig (n : Int) (e : Nat) (h0 : ¬ e = 0) (he : e ≤ 31) : fitE 0 e n ↔ (-2 ^ (e - 1) ≤ n ∧ n < 2 ^ (e - 1)) := by
  unfold fitE sigE
  rw [if_neg (by omega), if_neg (by omega)]
  have e1 : ((e : Int)).toNat = e := by omega
  rw [e1]
  constructor
  · intro h
    split at h
    · rename_i h1; exact h1.2.2
    · cases h
  · intro h
    rw [if_pos ⟨by omega, by omega, h⟩]
set_option maxRecDepth 20000 in
set_option maxHeartbeats 3200000 in
theorem isWithin_spec (n : Int) (e : Nat) (he : e ≤ 31) (w : World) :
    Calls Try.prog 71 #[.int .i64 n, .int .i64 (e : Int)] w fun en w' => en = .returned (.bool (fitT 0 e n)) ∧ w' = w := by
  by_cases h0 : e = 0
  · subst h0
    by_cases h : n = 0
    · have hd : fitT 0 (0 : Nat) n = true := by unfold fitT; simp [h]
      have hb : (n == 0) = true := by rw [h]; rfl
      rw [hd]
      clear hd
      clear h
      go_enter Try.func71, Try.ntmps71
      go_wp2
      go_ret
      exact ⟨rfl, rfl⟩
    · have hd : fitT 0 (0 : Nat) n = false := by unfold fitT; simp [h]
      have hb : (n == 0) = false := by rw [beq_eq_false_iff_ne]; exact h
      rw [hd]
      clear hd
      clear h
      go_enter Try.func71, Try.ntmps71
      go_wp2
      go_ret
      exact ⟨rfl, rfl⟩
  · have hd := sign_div n (e - 1)
    have hf := fit_sig n e h0 he
    have hp : 0 < (2 : Int) ^ (e - 1) := Int.pow_pos (by decide)
    by_cases h : -2 ^ (e - 1) ≤ n ∧ n < 2 ^ (e - 1)
    · rw [fitT_yes (hf.2 h)]
      by_cases hn : 0 ≤ n
      · have e0 : n / 2 ^ (e - 1) = 0 := hd.1.2 ⟨hn, h.2⟩
        clear hd hf hp h
        go_enter Try.func71, Try.ntmps71
        go_wp2
        go_ret
        exact ⟨rfl, rfl⟩
      · have e0 : n / 2 ^ (e - 1) = -1 := hd.2.2 ⟨h.1, by omega⟩
        clear hd hf hp h
        go_enter Try.func71, Try.ntmps71
        go_wp2
        go_ret
        exact ⟨rfl, rfl⟩
    · rw [fitT_no (fun hh => h (hf.1 hh))]
      have e0 : (n / 2 ^ (e - 1) == 0) = false := by rw [beq_eq_false_iff_ne, ne_eq, hd.1]; omega
      have e1 : (n / 2 ^ (e - 1) == -1) = false := by rw [beq_eq_false_iff_ne, ne_eq, hd.2]; omega
      clear hd hf hp h
      go_enter Try.func71, Try.ntmps71
      go_wp2
      go_ret
      exact ⟨rfl, rfl⟩
set_option maxRecDepth 20000 in
set_option maxHeartbeats 3200000 in
theorem areWithin_spec (l : List Int) (e : Nat) (he : e ≤ 31) (ao : Option Addr) (cap : Nat) (w : World) (hl : IntsAt w ao l) :
    Calls Try.prog 56 #[.slice ao l.length cap, .int .i64 (e : Int)] w fun en w' => en = .returned (.bool (allT 0 e l)) ∧ ∃ n, w' = w.drewN n := by
  have HL : Hid (IntsAt w ao l) := hl
  have h2 := hl.len
  clear hl
  go_enter Try.func56, Try.ntmps56
  go_wp2_with fail
  go_loopw [6, 9] (fun s6 s9 wr => ∃ j n : Nat, j ≤ l.length ∧ s9 = .int .i64 (j : Int) ∧ (∀ x ∈ l.take j, fitE 0 e x) ∧ wr = w.drewN n) (fun _ s9 _ => l.length - (intOf s9).toNat)
  case atStart => exact ⟨0, 0, Nat.zero_le _, rfl, fun x hx => absurd hx (by simp), rfl⟩
  case round =>
    obtain ⟨j, n, hj, rfl, hs, rfl⟩ := hrel
    have HS : Hid (∀ x ∈ l.take j, fitE 0 e x) := hs
    clear hs
    by_cases hlt : j < l.length
    · obtain ⟨b1, o1, rfl, q1⟩ := HL.out.at j hlt
      have r1 := q1 (w.drewN n) (below_drewN _ _)
      have HT : Hid (l.take (j + 1) = l.take j ++ [l.getD j 0]) := take_snoc l j hlt
      have HM : Hid (l.getD j 0 ∈ l) := getD_mem l j hlt
      clear q1
      generalize l.getD j 0 = x at *
      have kw := isWithin_spec x e he (w.drewN n)
      by_cases hx : fitE 0 e x
      · have HX : Hid (fitE 0 e x) := hx
        rw [fitT_yes hx] at kw
        clear hx
        go_wp2_with fail
        refine kw.mono ?_
        rintro en w4 ⟨rfl, rfl⟩
        go_wp2_with fail
        go_roundw
        case rel =>
          refine ⟨j + 1, n, by omega, by go_num, fun y hy => ?_, rfl⟩
          rw [HT.out] at hy
          rcases List.mem_append.1 hy with hy | hy
          · exact HS.out y hy
          · rw [List.mem_singleton] at hy; rw [hy]; exact HX.out
        case measure => simp [intOf]; omega
      · have HD : Hid (allT 0 e l = false) := allT_no (fun hh => hx (hh x HM.out))
        rw [fitT_no hx] at kw
        clear hx
        go_wp2_with fail
        refine kw.mono ?_
        rintro en w4 ⟨rfl, rfl⟩
        go_wp2_with fail
        go_ret
        exact ⟨by rw [HD.out]; rfl, n, rfl⟩
    · have HE : Hid (allT 0 e l = true) := allT_yes (by have := HS.out; rwa [List.take_of_length_le (by omega)] at this)
      go_wp2_with fail
      go_ret
      exact ⟨by rw [HE.out]; rfl, n, rfl⟩

end Go.Proofs.Ytdlakbgcflekkaa
