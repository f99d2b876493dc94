/- Own text: the walks of 'FromRate', the program's and the document's. -/
import Derived.Test.YtkbpecckphkhnaaRates
namespace Go.Proofs.Ytkbpecckphkhnaa
open Go.RowKit
set_option linter.unusedSimpArgs false
set_option linter.unusedVariables false

/-- The number that ten bytes may be the rate of. -/
def frN (l : List Nat) : Nat := val (l.drop 2) / 2 ^ (63 - (val (l.take 2) - 16383))
def frB (l : List Nat) : Bool := decide (16383 ≤ val (l.take 2) ∧ val (l.take 2) ≤ 16402 ∧ 1 ≤ frN l ∧ frN l ≤ 655350 ∧ rateL (frN l) = l)
/-- The rate of a text, the error. -/
def frV (l : List Nat) : Nat × Nat := if l.length = 10 then (if frB l then (frN l, 0) else (0, 3)) else (0, 2)
def pairV (u : Nat × Nat) : Value := .tuple #[.int .i64 (u.1 : Int), .int .i64 (u.2 : Int)]

theorem frV_len (l : List Nat) (h : ¬ l.length = 10) : frV l = (0, 2) := by unfold frV; rw [if_neg h]
theorem frV_no (l : List Nat) (h : l.length = 10) (hb : frB l = false) : frV l = (0, 3) := by unfold frV; rw [if_pos h, hb]; rfl
theorem frV_yes (l : List Nat) (h : l.length = 10) (hb : frB l = true) : frV l = (frN l, 0) := by unfold frV; rw [if_pos h, hb]; rfl

theorem rateL_take (n : Nat) : (rateL n).take 2 = highL (16383 + lg n) 2 := by
  unfold rateL
  rw [List.take_append_of_le_length (by rw [highL_length]; omega), List.take_of_length_le (by rw [highL_length]; omega)]
theorem rateL_drop (n : Nat) : (rateL n).drop 2 = highL (drawn n) 8 := by
  unfold rateL
  rw [List.drop_append_of_le_length (by rw [highL_length]; omega), List.drop_eq_nil_of_le (by rw [highL_length]; omega), List.nil_append]

theorem rate_take_val (n : Nat) (h1 : 1 ≤ n) (h : n ≤ 655350) : val ((rateL n).take 2) = 16383 + lg n := by
  have := lg_le n h1 h
  rw [rateL_take, val_highL]
  exact Nat.mod_eq_of_lt (by omega)
theorem rate_drop_val (n : Nat) (h1 : 1 ≤ n) (h : n ≤ 655350) : val ((rateL n).drop 2) = drawn n := by
  have := drawn_lt n h1 h
  rw [rateL_drop, val_highL]
  exact Nat.mod_eq_of_lt (by simpa using this)

theorem frN_rate (n : Nat) (h1 : 1 ≤ n) (h : n ≤ 655350) : frN (rateL n) = n := by
  unfold frN
  rw [rate_take_val n h1 h, rate_drop_val n h1 h, show 16383 + lg n - 16383 = lg n from by omega]
  unfold drawn
  exact Nat.mul_div_cancel _ (Nat.two_pow_pos _)

theorem frB_rate (n : Nat) (h1 : 1 ≤ n) (h : n ≤ 655350) : frB (rateL n) = true := by
  have hl := lg_le n h1 h
  unfold frB
  rw [frN_rate n h1 h, rate_take_val n h1 h]
  exact decide_eq_true ⟨by omega, by omega, h1, h, rfl⟩

/-- What was a rate is read as it was. -/
theorem frV_rate (n : Nat) (h1 : 1 ≤ n) (h : n ≤ 655350) : frV (rateL n) = (n, 0) := by
  rw [frV_yes _ (rateL_length n) (frB_rate n h1 h), frN_rate n h1 h]

/-- Bytes that are no rate of what they say. -/
theorem frB_false (l : List Nat) (x : Nat) (hx : 16383 ≤ val (l.take 2) → val (l.take 2) ≤ 16402 → frN l = x) (h : ¬ (1 ≤ x ∧ x ≤ 655350 ∧ rateL x = l)) : frB l = false := by
  unfold frB
  refine decide_eq_false (fun ⟨a, b, c, d, e⟩ => ?_)
  rw [hx a b] at c d e
  exact h ⟨c, d, e⟩
theorem frB_low (l : List Nat) (h : val (l.take 2) < 16383) : frB l = false := by unfold frB; exact decide_eq_false (by omega)
theorem frB_high (l : List Nat) (h : 16402 < val (l.take 2)) : frB l = false := by unfold frB; exact decide_eq_false (by omega)

theorem bytesOf_extract (s : ByteArray) (a b : Nat) : bytesOf (s.extract a b) = ((bytesOf s).take b).drop a := by
  unfold bytesOf
  rw [ByteArray.data_extract, Array.toList_extract, List.extract_eq_drop_take', List.map_drop, List.map_take]

theorem eq_text (l : List Nat) (s : ByteArray) (hl : ∀ b ∈ l, b < 256) : ((textOf l).toList == s.toList) = decide (l = bytesOf s) := by
  rw [ByteArray.toList_eq, ByteArray.toList_eq, Bool.eq_iff_iff]
  simp only [beq_iff_eq, decide_eq_true_eq]
  constructor
  · intro h
    rw [← bytesOf_textOf l hl]
    unfold bytesOf
    rw [h]
  · intro h
    rw [h, textOf_bytesOf]

theorem pair_ret {u v : Nat × Nat} (h : u = v) : Ending.returned (pairV u) = .returned (pairV v) := by rw [h]

/-- Ten bytes, cut. -/
theorem ten_cut (s : ByteArray) (h : s.size = 10) : bytesOf (s.extract 0 2) = (bytesOf s).take 2 ∧ bytesOf (s.extract 2 10) = (bytesOf s).drop 2 ∧ val ((bytesOf s).take 2) < 65536 ∧ val ((bytesOf s).drop 2) < 18446744073709551616 := by
  have hl := bytesOf_length s
  refine ⟨by rw [bytesOf_extract, List.drop_zero], by rw [bytesOf_extract, List.take_of_length_le (by omega)], ?_, ?_⟩
  · have := val_lt _ (fun b (hb : b ∈ (bytesOf s).take 2) => bytesOf_lt s b (List.mem_of_mem_take hb))
    rw [List.length_take, hl, h] at this
    exact this
  · have := val_lt _ (fun b (hb : b ∈ (bytesOf s).drop 2) => bytesOf_lt s b (List.mem_of_mem_drop hb))
    rw [List.length_drop, hl, h] at this
    exact this

theorem asI_small (x : Nat) (h : x < 9223372036854775808) : asI x = x := by unfold asI; rw [if_neg (by omega)]
theorem asI_rat (x : Nat) (h : ratB (asI x) = true) : asI x = x ∧ 1 ≤ x ∧ x ≤ 655350 := by
  obtain ⟨m, hm, h1, h2⟩ := ratB_nat h
  unfold asI at hm ⊢
  split at hm
  · omega
  · rename_i hx
    rw [if_neg hx]
    omega
theorem asI_norat (x : Nat) (h : ratB (asI x) = false) : ¬ (1 ≤ x ∧ x ≤ 655350) := by
  intro ⟨h1, h2⟩
  rw [asI_small x (by omega), ratB_of x h1 h2] at h
  cases h

set_option maxRecDepth 20000 in
set_option maxHeartbeats 1600000 in
theorem fromRate_spec (s : ByteArray) (hs : s.size ≤ 200000000000000) (w : World) :
    Calls Try.prog 15 #[.string s] w fun e w' => e = .returned (pairV (frV (bytesOf s))) ∧ Below w.heap.size w w' := by
  have hlen := bytesOf_length s
  by_cases h10 : s.size = 10
  · have hne : ((s.size : Int) == 10) = true := by simp; omega
    obtain ⟨c1, c2, hP, hV⟩ := ten_cut s h10
    have hf1 := fromHigh_spec (s.extract 0 2) (by rw [← bytesOf_length, c1, List.length_take]; omega) w
    rw [c1] at hf1
    have hl10 : (bytesOf s).length = 10 := by omega
    by_cases hlo : val ((bytesOf s).take 2) < 16383
    · rw [frV_no _ hl10 (frB_low _ hlo)]
      generalize val ((bytesOf s).take 2) = P at *
      clear c1 c2 hlen hl10
      go_enter Try.func15, Try.ntmps15
      go_wp2_with fail
      refine hf1.mono ?_
      rintro e w1 ⟨rfl, rfl⟩
      go_wp2
      go_ret2
      exact ⟨rfl, Below.refl _ _⟩
    · by_cases hhi : 16446 < val ((bytesOf s).take 2)
      · rw [frV_no _ hl10 (frB_high _ (by omega))]
        generalize val ((bytesOf s).take 2) = P at *
        clear c1 c2 hlen hl10
        go_enter Try.func15, Try.ntmps15
        go_wp2_with fail
        refine hf1.mono ?_
        rintro e w1 ⟨rfl, rfl⟩
        go_wp2
        go_ret2
        exact ⟨rfl, Below.refl _ _⟩
      · have hf2 := fromHigh_spec (s.extract 2 10) (by rw [← bytesOf_length, c2, List.length_drop]; omega) w
        rw [c2] at hf2
        obtain ⟨k, hk⟩ : ∃ k, k = val ((bytesOf s).take 2) - 16383 := ⟨_, rfl⟩
        obtain ⟨x, hx⟩ : ∃ x, x = val ((bytesOf s).drop 2) / 2 ^ (63 - k) := ⟨_, rfl⟩
        have hN : frN (bytesOf s) = x := by unfold frN; rw [← hk, ← hx]
        have hno : ¬ (1 ≤ x ∧ x ≤ 655350 ∧ rateL x = bytesOf s) → frV (bytesOf s) = (0, 3) := fun h => frV_no _ hl10 (frB_false _ x (fun _ _ => hN) h)
        have hyes : 1 ≤ x → x ≤ 655350 → rateL x = bytesOf s → frV (bytesOf s) = (x, 0) := fun a b c => by rw [← c]; exact frV_rate x a b
        have hxl : x < 18446744073709551616 := by
          rw [hx]
          exact Nat.lt_of_le_of_lt (Nat.div_le_self _ _) hV
        have hPk : (val ((bytesOf s).take 2) : Int) - 16383 = (k : Int) := by omega
        have hVx : (val ((bytesOf s).drop 2) : Int) / 2 ^ (63 - k) = (x : Int) := by
          rw [hx]
          simp
        have hk63 : k ≤ 63 := by omega
        have HN : Hid _ := hno
        have HY : Hid _ := hyes
        generalize hU : frV (bytesOf s) = U at *
        generalize val ((bytesOf s).take 2) = P at *
        generalize val ((bytesOf s).drop 2) = V at *
        clear c1 c2 hlen hl10 hno hyes hN hx hk hU
        have has := asInt_spec x hxl w
        by_cases hr : ratB (asI x) = true
        · obtain ⟨ex, hx1, hx2⟩ := asI_rat x hr
          rw [ex] at has
          have hra := rate_ok x hx1 hx2 w
          rw [ratT_nat x hx1 hx2, ratE_nat x hx1 hx2] at hra
          have heq := eq_text (rateL x) s (rateL_lt x)
          clear hr ex
          by_cases hsame : rateL x = bytesOf s
          · rw [decide_eq_true hsame] at heq
            have HU : Hid _ := HY.out hx1 hx2 hsame
            clear hsame HN HY
            generalize textOf (rateL x) = T at *
            go_enter Try.func15, Try.ntmps15
            go_wp2_with fail
            refine hf1.mono ?_
            rintro e w1 ⟨rfl, rfl⟩
            go_wp2_with fail
            refine hf2.mono ?_
            rintro e w1 ⟨rfl, rfl⟩
            go_wp2_with fail
            refine has.mono ?_
            rintro e w1 ⟨rfl, rfl⟩
            go_wp2_with fail
            refine hra.mono ?_
            rintro e w2 ⟨rfl, hB⟩
            go_wp2
            go_ret2
            exact ⟨by rw [HU.out]; rfl, hB⟩
          · rw [decide_eq_false hsame] at heq
            have HU : Hid _ := HN.out (fun h => hsame h.2.2)
            clear hsame HN HY
            generalize textOf (rateL x) = T at *
            go_enter Try.func15, Try.ntmps15
            go_wp2_with fail
            refine hf1.mono ?_
            rintro e w1 ⟨rfl, rfl⟩
            go_wp2_with fail
            refine hf2.mono ?_
            rintro e w1 ⟨rfl, rfl⟩
            go_wp2_with fail
            refine has.mono ?_
            rintro e w1 ⟨rfl, rfl⟩
            go_wp2_with fail
            refine hra.mono ?_
            rintro e w2 ⟨rfl, hB⟩
            go_wp2
            go_ret2
            exact ⟨by rw [HU.out]; rfl, hB⟩
        · have hrf : ratB (asI x) = false := by simpa using hr
          have hnr := asI_norat x hrf
          have HU : Hid _ := HN.out (fun h => hnr ⟨h.1, h.2.1⟩)
          have hra := rate_spec (asI x) w
          rw [ratT_no _ hrf, ratE_no _ hrf] at hra
          generalize asI x = n' at *
          clear hr hrf hnr HN HY
          go_enter Try.func15, Try.ntmps15
          go_wp2_with fail
          refine hf1.mono ?_
          rintro e w1 ⟨rfl, rfl⟩
          go_wp2_with fail
          refine hf2.mono ?_
          rintro e w1 ⟨rfl, rfl⟩
          go_wp2_with fail
          refine has.mono ?_
          rintro e w1 ⟨rfl, rfl⟩
          go_wp2_with fail
          refine hra.mono ?_
          rintro e w2 ⟨rfl, hB⟩
          go_wp2
          go_ret2
          exact ⟨by rw [HU.out]; rfl, hB⟩
  · have hne : ((s.size : Int) == 10) = false := by simp; omega
    rw [frV_len _ (by omega)]
    go_enter Try.func15, Try.ntmps15
    go_wp2
    go_ret2
    exact ⟨rfl, Below.refl _ _⟩

theorem drop_bytes (s : ByteArray) (h : s.size = 10) (i : Nat) (h2 : 2 ≤ i) (hi : i < s.size) : ((bytesOf s).drop 2).take (i - 2 + 1) = ((bytesOf s).drop 2).take (i - 2) ++ [(s[i]'hi).toNat] := by
  have hl := bytesOf_length s
  rw [List.take_succ_eq_append_getElem (by rw [List.length_drop]; omega)]
  congr 2
  rw [List.getElem_drop]
  have : 2 + (i - 2) = i := by omega
  simp only [this]
  exact bytesOf_get s i hi

theorem shr_small (V k : Nat) (hV : V < 18446744073709551616) (hk : k ≤ 19) : V / 2 ^ (63 - k) < 1048576 := by
  have h1 : 2 ^ 44 ≤ 2 ^ (63 - k) := Nat.pow_le_pow_right (by decide) (by omega)
  have h2 : V / 2 ^ (63 - k) ≤ V / 2 ^ 44 := Nat.div_le_div_left h1 (by decide)
  omega

set_option maxRecDepth 20000 in
set_option maxHeartbeats 1600000 in
theorem reffromRate_spec (s : ByteArray) (hs : s.size ≤ 200000000000000) (w : World) :
    Calls Try.prog 16 #[.string s] w fun e w' => e = .returned (pairV (frV (bytesOf s))) ∧ Below w.heap.size w w' := by
  have hlen := bytesOf_length s
  by_cases h10 : s.size = 10
  · have hne : ((s.size : Int) == 10) = true := by simp; omega
    obtain ⟨c1, c2, hP, hV⟩ := ten_cut s h10
    have hf1 := reffromBe_spec (s.extract 0 2) (by rw [← bytesOf_length, c1, List.length_take]; omega) w
    rw [c1, fromBe_of _ (by rw [List.length_take]; omega) (by omega)] at hf1
    have hl10 : (bytesOf s).length = 10 := by omega
    by_cases hlo : val ((bytesOf s).take 2) < 16383
    · rw [frV_no _ hl10 (frB_low _ hlo)]
      generalize val ((bytesOf s).take 2) = P at *
      clear c1 c2 hlen hl10
      go_enter Try.func16, Try.ntmps16
      go_wp2_with fail
      refine hf1.mono ?_
      rintro e w1 ⟨rfl, rfl⟩
      go_wp2
      go_ret2
      exact ⟨rfl, Below.refl _ _⟩
    · by_cases hhi : 16402 < val ((bytesOf s).take 2)
      · rw [frV_no _ hl10 (frB_high _ (by omega))]
        generalize val ((bytesOf s).take 2) = P at *
        clear c1 c2 hlen hl10
        go_enter Try.func16, Try.ntmps16
        go_wp2_with fail
        refine hf1.mono ?_
        rintro e w1 ⟨rfl, rfl⟩
        go_wp2
        go_ret2
        exact ⟨rfl, Below.refl _ _⟩
      · obtain ⟨k, hk⟩ : ∃ k, k = val ((bytesOf s).take 2) - 16383 := ⟨_, rfl⟩
        obtain ⟨x, hx⟩ : ∃ x, x = val ((bytesOf s).drop 2) / 2 ^ (63 - k) := ⟨_, rfl⟩
        have hN : frN (bytesOf s) = x := by unfold frN; rw [← hk, ← hx]
        have hno : ¬ (1 ≤ x ∧ x ≤ 655350 ∧ rateL x = bytesOf s) → frV (bytesOf s) = (0, 3) := fun h => frV_no _ hl10 (frB_false _ x (fun _ _ => hN) h)
        have hyes : 1 ≤ x → x ≤ 655350 → rateL x = bytesOf s → frV (bytesOf s) = (x, 0) := fun a b c => by rw [← c]; exact frV_rate x a b
        have hk19 : k ≤ 19 := by omega
        have hxl : x < 1048576 := by
          rw [hx]
          exact shr_small _ k hV hk19
        have hPk : (val ((bytesOf s).take 2) : Int) - 16383 = (k : Int) := by omega
        have hVx : (val ((bytesOf s).drop 2) : Int) / 2 ^ (63 - k) = (x : Int) := by
          rw [hx]
          simp
        have HN : Hid _ := hno
        have HY : Hid _ := hyes
        have hlp : ∀ (i v : Nat) (h2 : 2 ≤ i) (hi : i < s.size), v = val (((bytesOf s).drop 2).take (i - 2)) → v * 256 + (s[i]'hi).toNat = val (((bytesOf s).drop 2).take (i + 1 - 2)) ∧ v * 256 + (s[i]'hi).toNat < 18446744073709551616 := by
          intro i v h2 hi hv
          have e : v * 256 + (s[i]'hi).toNat = val (((bytesOf s).drop 2).take (i + 1 - 2)) := by rw [show i + 1 - 2 = i - 2 + 1 from by omega, drop_bytes s h10 i h2 hi, val_snoc, ← hv]
          have := val_take_le ((bytesOf s).drop 2) (i + 1 - 2)
          exact ⟨e, by omega⟩
        have hend : val (((bytesOf s).drop 2).take (10 - 2)) = val ((bytesOf s).drop 2) := by rw [List.take_of_length_le (by rw [List.length_drop]; omega)]
        have heq := eq_text (rateL x) s (rateL_lt x)
        generalize hU : frV (bytesOf s) = U at *
        generalize val ((bytesOf s).take 2) = P at *
        generalize hVV : val ((bytesOf s).drop 2) = V at *
        have HE : Hid _ := hend
        have HQ : Hid _ := heq
        clear c1 c2 hlen hl10 hno hyes hN hx hk hU hend hVV heq
        go_enter Try.func16, Try.ntmps16
        go_wp2_with fail
        refine hf1.mono ?_
        rintro e w1 ⟨rfl, rfl⟩
        go_wp2
        go_loop [5, 6] (fun a b => ∃ (i v : Nat), 2 ≤ i ∧ i ≤ 10 ∧ v = val (((bytesOf s).drop 2).take (i - 2)) ∧ a = .int .u64 (v : Int) ∧ b = .int .i64 (i : Int)) (fun _ b => 10 - (intOf b).toNat)
        case atStart => exact ⟨2, 0, by omega, by omega, rfl, rfl, rfl⟩
        case round =>
          obtain ⟨i, v, hi2, hi10, hv, rfl, rfl⟩ := hrel
          by_cases hlt : i < 10
          · have hp := hlp i v hi2 (by omega) hv
            have HV : Hid _ := hp.1
            have hv2 := hp.2
            have hii : i < s.size := by omega
            clear hp hv hlp
            go_wp2
            go_round
            case rel => exact ⟨i + 1, _, by omega, by omega, HV.out, by go_num, by go_num⟩
            case measure => simp [intOf]; omega
          · obtain rfl : i = 10 := by omega
            obtain rfl : v = V := by rw [hv]; exact HE.out
            clear hv hlp
            have hra := refrate_spec (x : Int) w1
            by_cases hr : 1 ≤ x ∧ x ≤ 655350
            · rw [ratT_nat x hr.1 hr.2, ratE_nat x hr.1 hr.2] at hra
              have heq := HQ.out
              by_cases hsame : rateL x = bytesOf s
              · rw [decide_eq_true hsame] at heq
                have HU : Hid _ := HY.out hr.1 hr.2 hsame
                clear hsame HN HY HE HQ
                generalize textOf (rateL x) = T at *
                go_wp2_with fail
                refine hra.mono ?_
                rintro e w2 ⟨rfl, hB⟩
                go_wp2
                go_ret2
                exact ⟨by rw [HU.out]; rfl, hB⟩
              · rw [decide_eq_false hsame] at heq
                have HU : Hid _ := HN.out (fun h => hsame h.2.2)
                clear hsame HN HY HE HQ
                generalize textOf (rateL x) = T at *
                go_wp2_with fail
                refine hra.mono ?_
                rintro e w2 ⟨rfl, hB⟩
                go_wp2
                go_ret2
                exact ⟨by rw [HU.out]; rfl, hB⟩
            · have hrf : ratB (x : Int) = false := by unfold ratB; exact decide_eq_false (by omega)
              have HU : Hid _ := HN.out (fun h => hr ⟨h.1, h.2.1⟩)
              rw [ratT_no _ hrf, ratE_no _ hrf] at hra
              clear hr hrf HN HY HE HQ
              go_wp2_with fail
              refine hra.mono ?_
              rintro e w2 ⟨rfl, hB⟩
              go_wp2
              go_ret2
              exact ⟨by rw [HU.out]; rfl, hB⟩
  · have hne : ((s.size : Int) == 10) = false := by simp; omega
    rw [frV_len _ (by omega)]
    go_enter Try.func16, Try.ntmps16
    go_wp2
    go_ret2
    exact ⟨rfl, Below.refl _ _⟩

end Go.Proofs.Ytkbpecckphkhnaa
