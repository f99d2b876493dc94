/- Own text: a rate's bytes, turned of stage 2 (FromRates). samples as plain data, and where they lie in memory. the walks of the document's Len, Sample. -/
import Derived.Test.YtaepgjheknkojaaGreatG3x
import Derived.Below
import Derived.WalkKit
import Derived.Deep.OwnRows
import Derived.Test.YtaepgjheknkojaaGreatRows
import Derived.Deep.Draws
import Derived.Laws.Bits64
import Derived.Laws.BitsAllLaws
import Derived.WalkLawsBesides
import Derived.RegionTactic
import Derived.Deep.QuietTactic
import Derived.BigQuiet
import Derived.Outline
import Derived.Deep.RegionHeld
namespace Go.Proofs.YtaepgjheknkojaaGreat
open Go.RowKit
set_option linter.unusedSimpArgs false
set_option linter.unusedVariables false
/-- The number that ten bytes may be the rate of. -/
def frN (l : List Nat) : Nat := val (l.drop 2) / 2 ^ (63 - (val (l.take 2) - 16383))

def frB (l : List Nat) : Bool := decide (16383 ≤ val (l.take 2) ∧ val (l.take 2) ≤ 16402 ∧ 1 ≤ frN l ∧ frN l ≤ 655350 ∧ rateL (frN l) = l)

/-- The rate of a text, the error. -/
def frV (l : List Nat) : Nat × Nat := if l.length = 10 then (if frB l then (frN l, 0) else (0, 3)) else (0, 2)

def pairV (u : Nat × Nat) : Value := .tuple #[.int .i64 (u.1 : Int), .int .i64 (u.2 : Int)]

theorem frV_len (l : List Nat) (h : ¬ l.length = 10) : frV l = (0, 2) := by unfold frV; rw [if_neg h]

theorem frV_no (l : List Nat) (h : l.length = 10) (hb : frB l = false) : frV l = (0, 3) := by unfold frV; rw [if_pos h, hb]; rfl

theorem frV_yes (l : List Nat) (h : l.length = 10) (hb : frB l = true) : frV l = (frN l, 0) := by unfold frV; rw [if_pos h, hb]; rfl

theorem rateL_take (n : Nat) : (rateL n).take 2 = highL (16383 + lg n) 2 := by
  unfold rateL
  rw [List.take_append_of_le_length (by rw [highL_length]; omega), List.take_of_length_le (by rw [highL_length]; omega)]

theorem rateL_drop (n : Nat) : (rateL n).drop 2 = highL (drawn n) 8 := by
  unfold rateL
  rw [List.drop_append_of_le_length (by rw [highL_length]; omega), List.drop_eq_nil_of_le (by rw [highL_length]; omega), List.nil_append]

theorem rate_take_val (n : Nat) (h1 : 1 ≤ n) (h : n ≤ 655350) : val ((rateL n).take 2) = 16383 + lg n := by
  have := lg_le n h1 h
  rw [rateL_take, val_highL]
  exact Nat.mod_eq_of_lt (by omega)

theorem rate_drop_val (n : Nat) (h1 : 1 ≤ n) (h : n ≤ 655350) : val ((rateL n).drop 2) = drawn n := by
  have := drawn_lt n h1 h
  rw [rateL_drop, val_highL]
  exact Nat.mod_eq_of_lt (by simpa using this)

theorem frN_rate (n : Nat) (h1 : 1 ≤ n) (h : n ≤ 655350) : frN (rateL n) = n := by
  unfold frN
  rw [rate_take_val n h1 h, rate_drop_val n h1 h, show 16383 + lg n - 16383 = lg n from by omega]
  unfold drawn
  exact Nat.mul_div_cancel _ (Nat.two_pow_pos _)

theorem frB_rate (n : Nat) (h1 : 1 ≤ n) (h : n ≤ 655350) : frB (rateL n) = true := by
  have hl := lg_le n h1 h
  unfold frB
  rw [frN_rate n h1 h, rate_take_val n h1 h]
  exact decide_eq_true ⟨by omega, by omega, h1, h, rfl⟩

/-- What was a rate is read as it was. -/
theorem frV_rate (n : Nat) (h1 : 1 ≤ n) (h : n ≤ 655350) : frV (rateL n) = (n, 0) := by
  rw [frV_yes _ (rateL_length n) (frB_rate n h1 h), frN_rate n h1 h]

/-- Bytes that are no rate of what they say. -/
theorem frB_false (l : List Nat) (x : Nat) (hx : 16383 ≤ val (l.take 2) → val (l.take 2) ≤ 16402 → frN l = x) (h : ¬ (1 ≤ x ∧ x ≤ 655350 ∧ rateL x = l)) : frB l = false := by
  unfold frB
  refine decide_eq_false (fun ⟨a, b, c, d, e⟩ => ?_)
  rw [hx a b] at c d e
  exact h ⟨c, d, e⟩

theorem frB_low (l : List Nat) (h : val (l.take 2) < 16383) : frB l = false := by unfold frB; exact decide_eq_false (by omega)

theorem frB_high (l : List Nat) (h : 16402 < val (l.take 2)) : frB l = false := by unfold frB; exact decide_eq_false (by omega)

theorem eq_text (l : List Nat) (s : ByteArray) (hl : ∀ b ∈ l, b < 256) : ((textOf l).toList == s.toList) = decide (l = bytesOf s) := by
  rw [ByteArray.toList_eq, ByteArray.toList_eq, Bool.eq_iff_iff]
  simp only [beq_iff_eq, decide_eq_true_eq]
  constructor
  · intro h
    rw [← bytesOf_textOf l hl]
    unfold bytesOf
    rw [h]
  · intro h
    rw [h, textOf_bytesOf]

theorem pair_ret {u v : Nat × Nat} (h : u = v) : Ending.returned (pairV u) = .returned (pairV v) := by rw [h]

/-- Ten bytes, cut. -/
theorem ten_cut (s : ByteArray) (h : s.size = 10) : bytesOf (s.extract 0 2) = (bytesOf s).take 2 ∧ bytesOf (s.extract 2 10) = (bytesOf s).drop 2 ∧ val ((bytesOf s).take 2) < 65536 ∧ val ((bytesOf s).drop 2) < 18446744073709551616 := by
  have hl := bytesOf_length s
  refine ⟨by rw [bytesOf_extract, List.drop_zero], by rw [bytesOf_extract, List.take_of_length_le (by omega)], ?_, ?_⟩
  · have := val_lt _ (fun b (hb : b ∈ (bytesOf s).take 2) => bytesOf_lt s b (List.mem_of_mem_take hb))
    rw [List.length_take, hl, h] at this
    exact this
  · have := val_lt _ (fun b (hb : b ∈ (bytesOf s).drop 2) => bytesOf_lt s b (List.mem_of_mem_drop hb))
    rw [List.length_drop, hl, h] at this
    exact this

theorem asI_small (x : Nat) (h : x < 9223372036854775808) : asI x = x := by unfold asI; rw [if_neg (by omega)]

theorem asI_rat (x : Nat) (h : ratB (asI x) = true) : asI x = x ∧ 1 ≤ x ∧ x ≤ 655350 := by
  obtain ⟨m, hm, h1, h2⟩ := ratB_nat h
  unfold asI at hm ⊢
  split at hm
  · omega
  · rename_i hx
    rw [if_neg hx]
    omega

theorem asI_norat (x : Nat) (h : ratB (asI x) = false) : ¬ (1 ≤ x ∧ x ≤ 655350) := by
  intro ⟨h1, h2⟩
  rw [asI_small x (by omega), ratB_of x h1 h2] at h
  cases h

set_option maxRecDepth 20000 in
set_option maxHeartbeats 1600000 in
theorem fromRate_spec (s : ByteArray) (hs : s.size ≤ 200000000000000) (w : World) :
    Calls Tryz.prog 87 #[.string s] w fun e w' => e = .returned (pairV (frV (bytesOf s))) ∧ Below w.heap.size w w' := by
  have hlen := bytesOf_length s
  by_cases h10 : s.size = 10
  · have hne : ((s.size : Int) == 10) = true := by simp; omega
    obtain ⟨c1, c2, hP, hV⟩ := ten_cut s h10
    have hf1 := fromHigh_spec (s.extract 0 2) (by rw [← bytesOf_length, c1, List.length_take]; omega) w
    rw [c1] at hf1
    have hl10 : (bytesOf s).length = 10 := by omega
    by_cases hlo : val ((bytesOf s).take 2) < 16383
    · rw [frV_no _ hl10 (frB_low _ hlo)]
      generalize val ((bytesOf s).take 2) = P at *
      clear c1 c2 hlen hl10
      go_enter Tryz.func87, Tryz.ntmps87
      go_wp2_with fail
      refine hf1.mono ?_
      rintro e w1 ⟨rfl, rfl⟩
      go_wp2
      go_ret2
      exact ⟨rfl, Below.refl _ _⟩
    · by_cases hhi : 16446 < val ((bytesOf s).take 2)
      · rw [frV_no _ hl10 (frB_high _ (by omega))]
        generalize val ((bytesOf s).take 2) = P at *
        clear c1 c2 hlen hl10
        go_enter Tryz.func87, Tryz.ntmps87
        go_wp2_with fail
        refine hf1.mono ?_
        rintro e w1 ⟨rfl, rfl⟩
        go_wp2
        go_ret2
        exact ⟨rfl, Below.refl _ _⟩
      · have hf2 := fromHigh_spec (s.extract 2 10) (by rw [← bytesOf_length, c2, List.length_drop]; omega) w
        rw [c2] at hf2
        obtain ⟨k, hk⟩ : ∃ k, k = val ((bytesOf s).take 2) - 16383 := ⟨_, rfl⟩
        obtain ⟨x, hx⟩ : ∃ x, x = val ((bytesOf s).drop 2) / 2 ^ (63 - k) := ⟨_, rfl⟩
        have hN : frN (bytesOf s) = x := by unfold frN; rw [← hk, ← hx]
        have hno : ¬ (1 ≤ x ∧ x ≤ 655350 ∧ rateL x = bytesOf s) → frV (bytesOf s) = (0, 3) := fun h => frV_no _ hl10 (frB_false _ x (fun _ _ => hN) h)
        have hyes : 1 ≤ x → x ≤ 655350 → rateL x = bytesOf s → frV (bytesOf s) = (x, 0) := fun a b c => by rw [← c]; exact frV_rate x a b
        have hxl : x < 18446744073709551616 := by
          rw [hx]
          exact Nat.lt_of_le_of_lt (Nat.div_le_self _ _) hV
        have hPk : (val ((bytesOf s).take 2) : Int) - 16383 = (k : Int) := by omega
        have hVx : (val ((bytesOf s).drop 2) : Int) / 2 ^ (63 - k) = (x : Int) := by
          rw [hx]
          simp
        have hk63 : k ≤ 63 := by omega
        have HN : Hid _ := hno
        have HY : Hid _ := hyes
        generalize hU : frV (bytesOf s) = U at *
        generalize val ((bytesOf s).take 2) = P at *
        generalize val ((bytesOf s).drop 2) = V at *
        clear c1 c2 hlen hl10 hno hyes hN hx hk hU
        have has := asInt_spec x hxl w
        by_cases hr : ratB (asI x) = true
        · obtain ⟨ex, hx1, hx2⟩ := asI_rat x hr
          rw [ex] at has
          have hra := rate_ok x hx1 hx2 w
          rw [ratT_nat x hx1 hx2, ratE_nat x hx1 hx2] at hra
          have heq := eq_text (rateL x) s (rateL_lt x)
          clear hr ex
          by_cases hsame : rateL x = bytesOf s
          · rw [decide_eq_true hsame] at heq
            have HU : Hid _ := HY.out hx1 hx2 hsame
            clear hsame HN HY
            generalize textOf (rateL x) = T at *
            go_enter Tryz.func87, Tryz.ntmps87
            go_wp2_with fail
            refine hf1.mono ?_
            rintro e w1 ⟨rfl, rfl⟩
            go_wp2_with fail
            refine hf2.mono ?_
            rintro e w1 ⟨rfl, rfl⟩
            go_wp2_with fail
            refine has.mono ?_
            rintro e w1 ⟨rfl, rfl⟩
            go_wp2_with fail
            refine hra.mono ?_
            rintro e w2 ⟨rfl, hB⟩
            go_wp2
            go_ret2
            exact ⟨by rw [HU.out]; rfl, hB⟩
          · rw [decide_eq_false hsame] at heq
            have HU : Hid _ := HN.out (fun h => hsame h.2.2)
            clear hsame HN HY
            generalize textOf (rateL x) = T at *
            go_enter Tryz.func87, Tryz.ntmps87
            go_wp2_with fail
            refine hf1.mono ?_
            rintro e w1 ⟨rfl, rfl⟩
            go_wp2_with fail
            refine hf2.mono ?_
            rintro e w1 ⟨rfl, rfl⟩
            go_wp2_with fail
            refine has.mono ?_
            rintro e w1 ⟨rfl, rfl⟩
            go_wp2_with fail
            refine hra.mono ?_
            rintro e w2 ⟨rfl, hB⟩
            go_wp2
            go_ret2
            exact ⟨by rw [HU.out]; rfl, hB⟩
        · have hrf : ratB (asI x) = false := by simpa using hr
          have hnr := asI_norat x hrf
          have HU : Hid _ := HN.out (fun h => hnr ⟨h.1, h.2.1⟩)
          have hra := rate_spec (asI x) w
          rw [ratT_no _ hrf, ratE_no _ hrf] at hra
          generalize asI x = n' at *
          clear hr hrf hnr HN HY
          go_enter Tryz.func87, Tryz.ntmps87
          go_wp2_with fail
          refine hf1.mono ?_
          rintro e w1 ⟨rfl, rfl⟩
          go_wp2_with fail
          refine hf2.mono ?_
          rintro e w1 ⟨rfl, rfl⟩
          go_wp2_with fail
          refine has.mono ?_
          rintro e w1 ⟨rfl, rfl⟩
          go_wp2_with fail
          refine hra.mono ?_
          rintro e w2 ⟨rfl, hB⟩
          go_wp2
          go_ret2
          exact ⟨by rw [HU.out]; rfl, hB⟩
  · have hne : ((s.size : Int) == 10) = false := by simp; omega
    rw [frV_len _ (by omega)]
    go_enter Tryz.func87, Tryz.ntmps87
    go_wp2
    go_ret2
    exact ⟨rfl, Below.refl _ _⟩

theorem drop_bytes (s : ByteArray) (h : s.size = 10) (i : Nat) (h2 : 2 ≤ i) (hi : i < s.size) : ((bytesOf s).drop 2).take (i - 2 + 1) = ((bytesOf s).drop 2).take (i - 2) ++ [(s[i]'hi).toNat] := by
  have hl := bytesOf_length s
  rw [List.take_succ_eq_append_getElem (by rw [List.length_drop]; omega)]
  congr 2
  rw [List.getElem_drop]
  have : 2 + (i - 2) = i := by omega
  simp only [this]
  exact bytesOf_get s i hi

theorem shr_small (V k : Nat) (hV : V < 18446744073709551616) (hk : k ≤ 19) : V / 2 ^ (63 - k) < 1048576 := by
  have h1 : 2 ^ 44 ≤ 2 ^ (63 - k) := Nat.pow_le_pow_right (by decide) (by omega)
  have h2 : V / 2 ^ (63 - k) ≤ V / 2 ^ 44 := Nat.div_le_div_left h1 (by decide)
  omega

set_option maxRecDepth 20000 in
set_option maxHeartbeats 1600000 in
theorem reffromRate_spec (s : ByteArray) (hs : s.size ≤ 200000000000000) (w : World) :
    Calls Tryz.prog 47 #[.string s] w fun e w' => e = .returned (pairV (frV (bytesOf s))) ∧ Below w.heap.size w w' := by
  have hlen := bytesOf_length s
  by_cases h10 : s.size = 10
  · have hne : ((s.size : Int) == 10) = true := by simp; omega
    obtain ⟨c1, c2, hP, hV⟩ := ten_cut s h10
    have hf1 := reffromBe_spec (s.extract 0 2) (by rw [← bytesOf_length, c1, List.length_take]; omega) w
    rw [c1, fromBe_of _ (by rw [List.length_take]; omega) (by omega)] at hf1
    have hl10 : (bytesOf s).length = 10 := by omega
    by_cases hlo : val ((bytesOf s).take 2) < 16383
    · rw [frV_no _ hl10 (frB_low _ hlo)]
      generalize val ((bytesOf s).take 2) = P at *
      clear c1 c2 hlen hl10
      go_enter Tryz.func47, Tryz.ntmps47
      go_wp2_with fail
      refine hf1.mono ?_
      rintro e w1 ⟨rfl, rfl⟩
      go_wp2
      go_ret2
      exact ⟨rfl, Below.refl _ _⟩
    · by_cases hhi : 16402 < val ((bytesOf s).take 2)
      · rw [frV_no _ hl10 (frB_high _ (by omega))]
        generalize val ((bytesOf s).take 2) = P at *
        clear c1 c2 hlen hl10
        go_enter Tryz.func47, Tryz.ntmps47
        go_wp2_with fail
        refine hf1.mono ?_
        rintro e w1 ⟨rfl, rfl⟩
        go_wp2
        go_ret2
        exact ⟨rfl, Below.refl _ _⟩
      · obtain ⟨k, hk⟩ : ∃ k, k = val ((bytesOf s).take 2) - 16383 := ⟨_, rfl⟩
        obtain ⟨x, hx⟩ : ∃ x, x = val ((bytesOf s).drop 2) / 2 ^ (63 - k) := ⟨_, rfl⟩
        have hN : frN (bytesOf s) = x := by unfold frN; rw [← hk, ← hx]
        have hno : ¬ (1 ≤ x ∧ x ≤ 655350 ∧ rateL x = bytesOf s) → frV (bytesOf s) = (0, 3) := fun h => frV_no _ hl10 (frB_false _ x (fun _ _ => hN) h)
        have hyes : 1 ≤ x → x ≤ 655350 → rateL x = bytesOf s → frV (bytesOf s) = (x, 0) := fun a b c => by rw [← c]; exact frV_rate x a b
        have hk19 : k ≤ 19 := by omega
        have hxl : x < 1048576 := by
          rw [hx]
          exact shr_small _ k hV hk19
        have hPk : (val ((bytesOf s).take 2) : Int) - 16383 = (k : Int) := by omega
        have hVx : (val ((bytesOf s).drop 2) : Int) / 2 ^ (63 - k) = (x : Int) := by
          rw [hx]
          simp
        have HN : Hid _ := hno
        have HY : Hid _ := hyes
        have hlp : ∀ (i v : Nat) (h2 : 2 ≤ i) (hi : i < s.size), v = val (((bytesOf s).drop 2).take (i - 2)) → v * 256 + (s[i]'hi).toNat = val (((bytesOf s).drop 2).take (i + 1 - 2)) ∧ v * 256 + (s[i]'hi).toNat < 18446744073709551616 := by
          intro i v h2 hi hv
          have e : v * 256 + (s[i]'hi).toNat = val (((bytesOf s).drop 2).take (i + 1 - 2)) := by rw [show i + 1 - 2 = i - 2 + 1 from by omega, drop_bytes s h10 i h2 hi, val_snoc, ← hv]
          have := val_take_le ((bytesOf s).drop 2) (i + 1 - 2)
          exact ⟨e, by omega⟩
        have hend : val (((bytesOf s).drop 2).take (10 - 2)) = val ((bytesOf s).drop 2) := by rw [List.take_of_length_le (by rw [List.length_drop]; omega)]
        have heq := eq_text (rateL x) s (rateL_lt x)
        generalize hU : frV (bytesOf s) = U at *
        generalize val ((bytesOf s).take 2) = P at *
        generalize hVV : val ((bytesOf s).drop 2) = V at *
        have HE : Hid _ := hend
        have HQ : Hid _ := heq
        clear c1 c2 hlen hl10 hno hyes hN hx hk hU hend hVV heq
        go_enter Tryz.func47, Tryz.ntmps47
        go_wp2_with fail
        refine hf1.mono ?_
        rintro e w1 ⟨rfl, rfl⟩
        go_wp2
        go_loop [5, 6] (fun a b => ∃ (i v : Nat), 2 ≤ i ∧ i ≤ 10 ∧ v = val (((bytesOf s).drop 2).take (i - 2)) ∧ a = .int .u64 (v : Int) ∧ b = .int .i64 (i : Int)) (fun _ b => 10 - (intOf b).toNat)
        case atStart => exact ⟨2, 0, by omega, by omega, rfl, rfl, rfl⟩
        case round =>
          obtain ⟨i, v, hi2, hi10, hv, rfl, rfl⟩ := hrel
          by_cases hlt : i < 10
          · have hp := hlp i v hi2 (by omega) hv
            have HV : Hid _ := hp.1
            have hv2 := hp.2
            have hii : i < s.size := by omega
            clear hp hv hlp
            go_wp2
            go_round
            case rel => exact ⟨i + 1, _, by omega, by omega, HV.out, by go_num, by go_num⟩
            case measure => simp [intOf]; omega
          · obtain rfl : i = 10 := by omega
            obtain rfl : v = V := by rw [hv]; exact HE.out
            clear hv hlp
            have hra := refrate_spec (x : Int) w1
            by_cases hr : 1 ≤ x ∧ x ≤ 655350
            · rw [ratT_nat x hr.1 hr.2, ratE_nat x hr.1 hr.2] at hra
              have heq := HQ.out
              by_cases hsame : rateL x = bytesOf s
              · rw [decide_eq_true hsame] at heq
                have HU : Hid _ := HY.out hr.1 hr.2 hsame
                clear hsame HN HY HE HQ
                generalize textOf (rateL x) = T at *
                go_wp2_with fail
                refine hra.mono ?_
                rintro e w2 ⟨rfl, hB⟩
                go_wp2
                go_ret2
                exact ⟨by rw [HU.out]; rfl, hB⟩
              · rw [decide_eq_false hsame] at heq
                have HU : Hid _ := HN.out (fun h => hsame h.2.2)
                clear hsame HN HY HE HQ
                generalize textOf (rateL x) = T at *
                go_wp2_with fail
                refine hra.mono ?_
                rintro e w2 ⟨rfl, hB⟩
                go_wp2
                go_ret2
                exact ⟨by rw [HU.out]; rfl, hB⟩
            · have hrf : ratB (x : Int) = false := by unfold ratB; exact decide_eq_false (by omega)
              have HU : Hid _ := HN.out (fun h => hr ⟨h.1, h.2.1⟩)
              rw [ratT_no _ hrf, ratE_no _ hrf] at hra
              clear hr hrf HN HY HE HQ
              go_wp2_with fail
              refine hra.mono ?_
              rintro e w2 ⟨rfl, hB⟩
              go_wp2
              go_ret2
              exact ⟨by rw [HU.out]; rfl, hB⟩
  · have hne : ((s.size : Int) == 10) = false := by simp; omega
    rw [frV_len _ (by omega)]
    go_enter Tryz.func47, Tryz.ntmps47
    go_wp2
    go_ret2
    exact ⟨rfl, Below.refl _ _⟩

end Go.Proofs.YtaepgjheknkojaaGreat

namespace Go.Proofs.YtaepgjheknkojaaGreat
open Go.RowKit
set_option linter.unusedSimpArgs false
set_option linter.unusedVariables false

/-- Samples: what the document's chapter 5 calls a PCM. -/
structure Pcm where
  rate : Int
  ch : Int
  wd : Int
  pl : List (List Int)

def lenP (p : Pcm) : Nat := (p.pl.getD 0 []).length
def sampB (n w : Int) : Bool := decide (-(2 ^ (w - 1).toNat) ≤ n ∧ n < 2 ^ (w - 1).toNat)
def headB (p : Pcm) : Bool := decide (1 ≤ p.rate ∧ p.rate ≤ 655350 ∧ 1 ≤ p.ch ∧ p.ch ≤ 8 ∧ 4 ≤ p.wd ∧ p.wd ≤ 32 ∧ (p.pl.length : Int) = p.ch)
def planeB (p : Pcm) (l : List Int) : Bool := decide (l.length = lenP p) && l.all (fun n => sampB n p.wd)
/-- Check's answer. -/
def checkN (p : Pcm) : Int := if headB p && p.pl.all (planeB p) then (if 1048576 < lenP p then 5 else 0) else 50
def formatB (f : Int) : Bool := decide (1 ≤ f ∧ f ≤ 5)
def fitB (f w : Int) : Bool := if f = 1 ∨ f = 2 then decide (w % 8 = 0) else if f = 3 ∨ f = 4 then decide (w ≤ 24) else decide (8 ≤ w ∧ w ≤ 24)
/-- Fits' answer. -/
def fitsN (f : Int) (p : Pcm) : Int := if formatB f then (if checkN p = 0 then (if fitB f p.wd then 0 else 4) else checkN p) else 1

/-- A list of numbers in memory. -/
structure IntsAt (w : World) (ao : Option Addr) (l : List Int) : Prop where
  len : l.length ≤ 17592186044415
  num : ∀ n ∈ l, -9223372036854775808 ≤ n ∧ n ≤ 9223372036854775807
  lies : 0 < l.length → ∃ b off, ao = some ⟨b, off, none⟩ ∧ ∀ j, j < l.length → w.cell? ⟨b, off + j, none⟩ = some (.int .i64 (l.getD j 0))

/-- A list of such lists. -/
structure RowsAt (w : World) (ao : Option Addr) (xs : List (List Int)) : Prop where
  len : xs.length ≤ 5864062014805
  lies : 0 < xs.length → ∃ b off, ao = some ⟨b, off, none⟩ ∧ ∀ i, i < xs.length → ∃ a c, w.cell? ⟨b, off + i, none⟩ = some (.slice a (xs.getD i []).length c) ∧ (xs.getD i []).length ≤ c ∧ (a = none → c = 0) ∧ IntsAt w a (xs.getD i [])

/-- Numbers that are an int's. -/
structure Fair (p : Pcm) : Prop where
  r1 : -9223372036854775808 ≤ p.rate
  r2 : p.rate ≤ 9223372036854775807
  c1 : -9223372036854775808 ≤ p.ch
  c2 : p.ch ≤ 9223372036854775807
  w1 : -9223372036854775808 ≤ p.wd
  w2 : p.wd ≤ 9223372036854775807

/-- A PCM's value. -/
abbrev pcmC (p : Pcm) (ao : Option Addr) (cap : Nat) : Array Value := #[.int .i64 p.rate, .int .i64 p.ch, .int .i64 p.wd, .slice ao p.pl.length cap]
abbrev pcmV (p : Pcm) (ao : Option Addr) (cap : Nat) : Value := .agg (pcmC p ao cap)

theorem lt_cell {w : World} {a : Addr} {v : Value} (h : w.cell? a = some v) : a.block < w.heap.size := World.block_lt_of_cell? w a h

theorem IntsAt.keep {w w' : World} {ao : Option Addr} {l : List Int} (h : IntsAt w ao l) (hb : ∀ k, k < w.heap.size → w'.heap[k]? = w.heap[k]?) : IntsAt w' ao l := by
  refine ⟨h.len, h.num, fun h0 => ?_⟩
  obtain ⟨b, off, e, hc⟩ := h.lies h0
  refine ⟨b, off, e, fun j hj => ?_⟩
  have h1 := hc j hj
  have h2 := lt_cell h1
  rw [← h1]
  exact World.cell?_of_block (w := w) (hb b h2)

theorem RowsAt.keep {w w' : World} {ao : Option Addr} {xs : List (List Int)} (h : RowsAt w ao xs) (hb : ∀ k, k < w.heap.size → w'.heap[k]? = w.heap[k]?) : RowsAt w' ao xs := by
  refine ⟨h.len, fun h0 => ?_⟩
  obtain ⟨b, off, e, hc⟩ := h.lies h0
  refine ⟨b, off, e, fun i hi => ?_⟩
  obtain ⟨a, c, h1, h5, h6, h2⟩ := hc i hi
  refine ⟨a, c, ?_, h5, h6, h2.keep hb⟩
  have h3 := lt_cell h1
  rw [← h1]
  exact World.cell?_of_block (w := w) (hb b h3)

theorem RowsAt.below {w w' : World} {ao : Option Addr} {xs : List (List Int)} (h : RowsAt w ao xs) (hb : Below w.heap.size w w') : RowsAt w' ao xs := h.keep hb.block
theorem IntsAt.below {w w' : World} {ao : Option Addr} {xs : List Int} (h : IntsAt w ao xs) (hb : Below w.heap.size w w') : IntsAt w' ao xs := h.keep hb.block

theorem all_false {α : Type} {l : List α} {f : α → Bool} {d : α} {i : Nat} (hi : i < l.length) (h : f (l.getD i d) = false) : l.all f = false := by
  rw [List.all_eq_false]
  refine ⟨l.getD i d, ?_, by rw [h]; decide⟩
  rw [List.getD_eq_getElem?_getD, List.getElem?_eq_getElem hi]
  exact List.getElem_mem hi
theorem all_true {α : Type} {l : List α} {f : α → Bool} {d : α} (h : ∀ i, i < l.length → f (l.getD i d) = true) : l.all f = true := by
  rw [List.all_eq_true]
  intro x hx
  obtain ⟨i, hi, rfl⟩ := List.mem_iff_getElem.1 hx
  have := h i hi
  rwa [List.getD_eq_getElem?_getD, List.getElem?_eq_getElem hi] at this

theorem check_head (p : Pcm) (h : headB p = false) : checkN p = 50 := by unfold checkN; rw [h]; rfl
theorem check_plane (p : Pcm) (i : Nat) (hi : i < p.pl.length) (h : planeB p (p.pl.getD i []) = false) : checkN p = 50 := by
  unfold checkN
  rw [all_false hi h, Bool.and_false]
  rfl
theorem check_all (p : Pcm) (h : headB p = true) (hp : ∀ i, i < p.pl.length → planeB p (p.pl.getD i []) = true) : checkN p = if 1048576 < lenP p then 5 else 0 := by
  unfold checkN
  rw [h, all_true hp]
  rfl
theorem plane_len (p : Pcm) (l : List Int) (h : ¬ l.length = lenP p) : planeB p l = false := by
  unfold planeB
  rw [decide_eq_false h]
  rfl
theorem plane_samp (p : Pcm) (l : List Int) (k : Nat) (hk : k < l.length) (h : sampB (l.getD k 0) p.wd = false) : planeB p l = false := by
  unfold planeB
  rw [all_false hk h, Bool.and_false]
theorem plane_all (p : Pcm) (l : List Int) (h : l.length = lenP p) (hs : ∀ k, k < l.length → sampB (l.getD k 0) p.wd = true) : planeB p l = true := by
  unfold planeB
  rw [decide_eq_true h, all_true hs]
  rfl
theorem head_parts (p : Pcm) (h : headB p = true) : 1 ≤ p.rate ∧ p.rate ≤ 655350 ∧ 1 ≤ p.ch ∧ p.ch ≤ 8 ∧ 4 ≤ p.wd ∧ p.wd ≤ 32 ∧ (p.pl.length : Int) = p.ch := of_decide_eq_true h

end Go.Proofs.YtaepgjheknkojaaGreat

namespace Go.Proofs.YtaepgjheknkojaaGreat
open Go.RowKit
set_option linter.unusedSimpArgs false
set_option linter.unusedVariables false

set_option maxRecDepth 20000 in
set_option maxHeartbeats 1600000 in
theorem rlen_spec (p : Pcm) (ao : Option Addr) (cap : Nat) (w : World) (hr : RowsAt w ao p.pl) :
    Calls Tryz.prog 40 #[pcmV p ao cap] w fun e w' => e = .returned (.int .i64 (lenP p : Int)) ∧ Below w.heap.size w w' := by
  have hl := hr.len
  by_cases h0 : p.pl.length = 0
  · have e0 : lenP p = 0 := by
      unfold lenP
      rw [List.getD_eq_getElem?_getD, List.getElem?_eq_none (by omega)]
      rfl
    rw [e0]
    go_enter Tryz.func40, Tryz.ntmps40
    go_wp2
    go_ret
    exact ⟨rfl, (Below.refl _ _).alloc (Nat.le_refl _) _⟩
  · obtain ⟨b, off, rfl, hc⟩ := hr.lies (by omega)
    obtain ⟨a, c, h1, _, _, h2⟩ := hc 0 (by omega)
    have hb := lt_cell h1
    simp only at hb
    have hl2 := h2.len
    have e0 : (p.pl.getD 0 []).length = lenP p := rfl
    rw [e0, Nat.add_zero] at h1
    rw [e0] at hl2
    generalize lenP p = n at *
    clear hc h2 e0
    go_enter Tryz.func40, Tryz.ntmps40
    go_wp2
    go_ret
    exact ⟨rfl, (Below.refl _ _).alloc (Nat.le_refl _) _⟩

theorem pow31 (k : Nat) (h : k ≤ 31) : (2 : Int) ^ k ≤ 2147483648 ∧ (1 : Int) ≤ 2 ^ k := by
  have h1 : (2 : Nat) ^ k ≤ 2 ^ 31 := Nat.pow_le_pow_right (by decide) h
  have h2 : 0 < (2 : Nat) ^ k := Nat.pow_pos (by decide)
  have e : (2 : Int) ^ k = ((2 ^ k : Nat) : Int) := by simp
  have e2 : (2 : Nat) ^ 31 = 2147483648 := by decide
  rw [e]
  omega

set_option maxRecDepth 20000 in
set_option maxHeartbeats 1600000 in
theorem rsample_spec (n wd : Int) (h4 : 4 ≤ wd) (h32 : wd ≤ 32) (w : World) :
    Calls Tryz.prog 49 #[.int .i64 n, .int .i64 wd] w fun e w' => e = .returned (.bool (sampB n wd)) ∧ w' = w := by
  obtain ⟨hp1, hp2⟩ := pow31 (wd - 1).toNat (by omega)
  unfold sampB
  have hk : ((wd - 1).toNat : Int) = wd - 1 := by omega
  generalize hkk : (wd - 1).toNat = k at *
  have hkk' : (wd - 1).toNat = k := hkk
  generalize hH : (2 : Int) ^ k = h at *
  by_cases h1 : -h ≤ n
  · by_cases h2 : n < h
    · have hd : decide (-h ≤ n ∧ n < h) = true := decide_eq_true ⟨h1, h2⟩
      rw [hd]
      go_enter Tryz.func49, Tryz.ntmps49
      go_wp2
      go_ret
      exact ⟨rfl, rfl⟩
    · have hd : decide (-h ≤ n ∧ n < h) = false := decide_eq_false (fun c => h2 c.2)
      rw [hd]
      go_enter Tryz.func49, Tryz.ntmps49
      go_wp2
      go_ret
      exact ⟨rfl, rfl⟩
  · have hd : decide (-h ≤ n ∧ n < h) = false := decide_eq_false (fun c => h1 c.1)
    rw [hd]
    go_enter Tryz.func49, Tryz.ntmps49
    go_wp2
    go_ret
    exact ⟨rfl, rfl⟩

/-- The samples, boxed, and all that was there. -/
structure Bx (w0 : World) (p : Pcm) (ao : Option Addr) (cap : Nat) (w : World) : Prop where
  box : w.heap[w0.heap.size]? = some (.cells (pcmC p ao cap) 24 (0, 0))
  below : Below w0.heap.size w0 w
theorem Bx.next {w0 w w' : World} {p : Pcm} {ao : Option Addr} {cap : Nat} (h : Bx w0 p ao cap w) (hB : Below w.heap.size w w') : Bx w0 p ao cap w' :=
  ⟨by rw [hB.block _ (lt_of_block h.box)]; exact h.box, h.below.trans (hB.mono h.below.size)⟩
theorem Bx.drewN {w0 w : World} {p : Pcm} {ao : Option Addr} {cap : Nat} (h : Bx w0 p ao cap w) (n : Nat) : Bx w0 p ao cap (w.drewN n) :=
  ⟨h.box, ⟨h.below.os, h.below.tape, h.below.output, h.below.size, h.below.block⟩⟩
theorem Bx.c0 {w0 w : World} {p : Pcm} {ao : Option Addr} {cap : Nat} (h : Bx w0 p ao cap w) : w.cell? ⟨w0.heap.size, 0, none⟩ = some (.int .i64 p.rate) := by rw [cell_of_row _ _ _ _ _ _ h.box]; rfl
theorem Bx.c1 {w0 w : World} {p : Pcm} {ao : Option Addr} {cap : Nat} (h : Bx w0 p ao cap w) : w.cell? ⟨w0.heap.size, 1, none⟩ = some (.int .i64 p.ch) := by rw [cell_of_row _ _ _ _ _ _ h.box]; rfl
theorem Bx.c2 {w0 w : World} {p : Pcm} {ao : Option Addr} {cap : Nat} (h : Bx w0 p ao cap w) : w.cell? ⟨w0.heap.size, 2, none⟩ = some (.int .i64 p.wd) := by rw [cell_of_row _ _ _ _ _ _ h.box]; rfl
theorem Bx.c3 {w0 w : World} {p : Pcm} {ao : Option Addr} {cap : Nat} (h : Bx w0 p ao cap w) : w.cell? ⟨w0.heap.size, 3, none⟩ = some (.slice ao p.pl.length cap) := by rw [cell_of_row _ _ _ _ _ _ h.box]; rfl
theorem Bx.new (w : World) (p : Pcm) (ao : Option Addr) (cap : Nat) : Bx w p ao cap (w.alloc (.cells (pcmC p ao cap) 24)) := ⟨heap_alloc_new _ _, (Below.refl _ _).alloc (Nat.le_refl _) _⟩

set_option maxRecDepth 20000 in
set_option maxHeartbeats 3200000 in
theorem rcheck_no (p : Pcm) (ao : Option Addr) (cap : Nat) (w : World) (hr : RowsAt w ao p.pl) (hh : headB p = false) :
    Calls Tryz.prog 42 #[pcmV p ao cap] w fun e w' => e = .returned (.int .i64 50) ∧ Below w.heap.size w w' := by
  have hl := hr.len
  clear hr
  have hn := of_decide_eq_false hh
  clear hh
  by_cases g0 : p.rate < 1
  · clear hn
    go_enter Tryz.func42, Tryz.ntmps42
    go_wp2
    go_ret
    exact ⟨rfl, (Below.refl _ _).alloc (Nat.le_refl _) _⟩
  · skip
    by_cases g1 : 655350 < p.rate
    · clear hn
      go_enter Tryz.func42, Tryz.ntmps42
      go_wp2
      go_ret
      exact ⟨rfl, (Below.refl _ _).alloc (Nat.le_refl _) _⟩
    · skip
      by_cases g2 : p.ch < 1
      · clear hn
        go_enter Tryz.func42, Tryz.ntmps42
        go_wp2
        go_ret
        exact ⟨rfl, (Below.refl _ _).alloc (Nat.le_refl _) _⟩
      · skip
        by_cases g3 : 8 < p.ch
        · clear hn
          go_enter Tryz.func42, Tryz.ntmps42
          go_wp2
          go_ret
          exact ⟨rfl, (Below.refl _ _).alloc (Nat.le_refl _) _⟩
        · skip
          by_cases g4 : p.wd < 4
          · clear hn
            go_enter Tryz.func42, Tryz.ntmps42
            go_wp2
            go_ret
            exact ⟨rfl, (Below.refl _ _).alloc (Nat.le_refl _) _⟩
          · skip
            by_cases g5 : 32 < p.wd
            · clear hn
              go_enter Tryz.func42, Tryz.ntmps42
              go_wp2
              go_ret
              exact ⟨rfl, (Below.refl _ _).alloc (Nat.le_refl _) _⟩
            · skip
              by_cases g6 : ¬ (p.pl.length : Int) = p.ch
              · clear hn
                go_enter Tryz.func42, Tryz.ntmps42
                go_wp2
                go_ret
                exact ⟨rfl, (Below.refl _ _).alloc (Nat.le_refl _) _⟩
              · skip
                exact absurd ⟨by omega, by omega, by omega, by omega, by omega, by omega, by omega⟩ hn

end Go.Proofs.YtaepgjheknkojaaGreat
