/- Own text: the walks of 'Coded', the program's and the document's. -/
import Derived.Test.YtkbpecckphkhnaaHeads
import Derived.Deep.RegionWith
namespace Go.Proofs.Ytkbpecckphkhnaa
open Go.RowKit
set_option linter.unusedSimpArgs false
set_option linter.unusedVariables false

/-- Coded, and its error. -/
def codB (n : Int) : Bool := decide (0 ≤ n ∧ n < 68719476736)
def codT (n : Int) : ByteArray := if codB n then textOf (codeL n.toNat (clen n.toNat)) else ⟨#[]⟩
def codE (n : Int) : Int := if codB n then 0 else 11

theorem codB_nat {n : Int} (h : codB n = true) : ∃ m : Nat, n = m ∧ m < 68719476736 := by
  unfold codB at h
  have h := of_decide_eq_true h
  exact ⟨n.toNat, by omega, by omega⟩
theorem codB_of (m : Nat) (h : m < 68719476736) : codB (m : Int) = true := by unfold codB; exact decide_eq_true (by omega)
theorem codT_nat (m : Nat) (h : m < 68719476736) : codT (m : Int) = textOf (codeL m (clen m)) := by unfold codT; rw [codB_of m h]; simp
theorem codE_nat (m : Nat) (h : m < 68719476736) : codE (m : Int) = 0 := by unfold codE; rw [codB_of m h]; simp
theorem codT_no (n : Int) (h : codB n = false) : codT n = ⟨#[]⟩ := by unfold codT; rw [h]; rfl
theorem codE_no (n : Int) (h : codB n = false) : codE n = 11 := by unfold codE; rw [h]; rfl

theorem pow6 (i : Nat) : (2 : Nat) ^ (6 * i) = 64 ^ i := by rw [Nat.pow_mul]

theorem or128 : ∀ b : Fin 64, bits BinOp.or IntKind.i64 128 (b.val : Int) = ((128 + b.val : Nat) : Int) := by decide +kernel

/-- A byte behind the first. -/
theorem tail_at (n i : Nat) : bits BinOp.or IntKind.i64 128 (bits BinOp.and IntKind.i64 ((n : Int) / 2 ^ (6 * i)) 63) % 256 = ((128 + n / 64 ^ i % 64 : Nat) : Int) := by
  have e : ((2 : Int) ^ (6 * i)) = ((64 ^ i : Nat) : Int) := by rw [← pow6]; simp
  have e2 : ((n : Int) / ((64 ^ i : Nat) : Int)) % 64 = ((n / 64 ^ i % 64 : Nat) : Int) := by omega
  have hm := Nat.mod_lt (n / 64 ^ i) (show 64 > 0 by decide)
  have := or128 ⟨n / 64 ^ i % 64, hm⟩
  simp only at this
  rw [i64_and63, e, e2, this]
  omega

/-- The first byte. -/
theorem head_at (n k : Nat) (h1 : 1 ≤ k) (h7 : k ≤ 7) (h : n < cbound k) : bits BinOp.or IntKind.i64 (hm k : Int) ((n : Int) / 2 ^ (6 * (k - 1))) % 256 = ((codeAt n k 0 : Nat) : Int) := by
  have e : ((2 : Int) ^ (6 * (k - 1))) = ((64 ^ (k - 1) : Nat) : Int) := by rw [← pow6]; simp
  have e2 : ((n : Int) / ((64 ^ (k - 1) : Nat) : Int)) = ((n / 64 ^ (k - 1) : Nat) : Int) := by omega
  have ht := top_lt n k h1 h7 h
  have all : ∀ k : Fin 8, ∀ q : Fin 128, 1 ≤ k.val → q.val < (if k.val = 1 then 128 else 2 ^ (7 - k.val)) → bits BinOp.or IntKind.i64 (hm k.val : Int) (q.val : Int) % 256 = ((hm k.val + q.val : Nat) : Int) := by decide +kernel
  have hq : n / 64 ^ (k - 1) < 128 := by
    rcases seven k h1 h7 with rfl | rfl | rfl | rfl | rfl | rfl | rfl <;> simp at ht ⊢ <;> omega
  rw [e, e2]
  unfold codeAt
  rw [if_pos rfl]
  exact all ⟨k, by omega⟩ ⟨n / 64 ^ (k - 1), hq⟩ h1 ht

set_option maxRecDepth 20000 in
set_option maxHeartbeats 1600000 in
theorem coded_ok (n : Nat) (h : n < 68719476736) (w : World) :
    Calls Try.prog 21 #[.int .i64 (n : Int)] w fun e w' => e = .returned (.tuple #[.string (codT n), .int .i64 (codE n)]) ∧ Below w.heap.size w w' := by
  rw [codT_nat n h, codE_nat n h]
  have hr := clen_range n
  have hbd := clen_bound n h
  have hcl := codedLen_spec n h w
  obtain ⟨k, hk⟩ : ∃ k, k = clen n := ⟨_, rfl⟩
  rw [← hk] at hr hbd hcl ⊢
  clear hk
  have hmk := made_run k (by omega)
  have hrow := World.rowIs_made w (.int .u8 0) k 5
  have hbel : Below w.heap.size w (w.alloc (.cells (madeCells #[.int .u8 0] k) 5)) := (Below.refl _ _).alloc (Nat.le_refl _) _
  have HB : Hid (n < cbound k) := hbd
  clear hbd
  go_enter Try.func21, Try.ntmps21
  go_wp2_with fail
  refine hcl.mono ?_
  rintro e w1 ⟨rfl, rfl⟩
  clear hcl
  go_wp2
  go_loopw [18] (fun t wr => ∃ (i : Nat), i ≤ k ∧ t = .int .i64 (i : Int) ∧ wr.rowIs w1.heap.size 5 k (fun j => .int .u8 ((if k - 1 - j < i then 128 + n / 64 ^ (k - 1 - j) % 64 else 0 : Nat) : Int)) ∧ Below w1.heap.size w1 wr) (fun t _ => k - (intOf t).toNat)
  case atStart => exact ⟨0, Nat.zero_le _, rfl, hrow.congr (fun i _ => by simp), hbel⟩
  case round =>
    obtain ⟨i, hi, rfl, hr, hb⟩ := hrel
    by_cases hlt : i < k
    · have hc := hr.cell (i := k - 1 - i) (by omega)
      have hf := hr.frozen (k - 1 - i)
      have hta := tail_at n i
      go_wp2
      go_roundw
      case rel =>
        refine ⟨i + 1, by omega, by go_num, ?_, hb.setCell (by simp) _⟩
        refine (hr.set (k - 1 - i) _).congr (fun j hj => ?_)
        by_cases e : j = k - 1 - i
        · subst e
          rw [if_pos rfl, show k - 1 - (k - 1 - i) = i from by omega, if_pos (by omega)]
          simp
        · rw [if_neg e]
          congr 3
          by_cases h : k - 1 - j < i
          · simp [h, show k - 1 - j < i + 1 by omega]
          · simp [h, show ¬ k - 1 - j < i + 1 by omega]
      case measure => simp [intOf]; omega
    · obtain rfl : i = k := by omega
      have hr2 : wr.rowIs w1.heap.size 5 i (fun j => .int .u8 ((128 + n / 64 ^ (i - 1 - j) % 64 : Nat) : Int)) := hr.congr (fun j hj => by rw [if_pos (by omega)])
      have hc := hr2.cell (i := 0) (by omega)
      have hf := hr2.frozen 0
      have hsh : Op.shift BinOp.shr IntKind.i64 (n : Int) IntKind.i64 (IntKind.i64.wrap (6 * IntKind.i64.wrap ((i : Int) - 1))) = pure (.int .i64 ((n : Int) / 2 ^ (6 * (i - 1)))) := by
        have e : IntKind.i64.wrap (6 * IntKind.i64.wrap ((i : Int) - 1)) = ((6 * (i - 1) : Nat) : Int) := by
          rw [IntKind.wrap_i64, IntKind.wrap_i64]
          omega
        rw [e]
        exact shift_shr IntKind.i64 IntKind.i64 (n : Int) ((6 * (i - 1) : Nat) : Int) (by omega) (by show _ ≤ ((64 : Nat) : Int); omega)
      have hha := head_at n i (by omega) (by omega) HB.out
      generalize (n : Int) / 2 ^ (6 * (i - 1)) = q at *
      obtain ⟨c0, hc0⟩ : ∃ c0, c0 = codeAt n i 0 := ⟨_, rfl⟩
      rw [← hc0] at hha
      have HC : Hid _ := hc0
      clear hr hc0
      go_wp2
      go_region_with (go_at_call 31; refine (headMark_spec i (by omega) (by omega) _).mono ?_; rintro e w' ⟨rfl, rfl⟩)
      have hr3 : (wr.setCell ⟨w1.heap.size, 0, none⟩ (.int .u8 (c0 : Int))).drew.rowIs w1.heap.size 5 i (fun j => .int .u8 ((codeAt n i j : Nat) : Int)) := by
        refine ((hr2.set 0 _).drew).congr (fun j hj => ?_)
        by_cases e : j = 0
        · subst e
          rw [if_pos rfl, HC.out]
        · rw [if_neg e]
          unfold codeAt
          rw [if_neg e]
      have hb3 : Below w1.heap.size w1 (wr.setCell ⟨w1.heap.size, 0, none⟩ (.int .u8 (c0 : Int))).drew := (hb.setCell (by simp) _).drew
      generalize (wr.setCell ⟨w1.heap.size, 0, none⟩ (.int .u8 (c0 : Int))).drew = w3 at *
      have hcv := conv_row (cap := i) hr3
      clear hr3 hr2 hc hf hsh hha
      go_wp2
      go_ret2
      exact ⟨rfl, hb3⟩

theorem coded_spec (n : Int) (h1 : -9223372036854775808 ≤ n) (h2 : n ≤ 9223372036854775807) (w : World) :
    Calls Try.prog 21 #[.int .i64 n] w fun e w' => e = .returned (.tuple #[.string (codT n), .int .i64 (codE n)]) ∧ Below w.heap.size w w' := by
  by_cases hb : codB n = true
  · obtain ⟨m, rfl, hm⟩ := codB_nat hb
    exact coded_ok m hm w
  · have hf : codB n = false := by simpa using hb
    rw [codT_no n hf, codE_no n hf]
    have hn : n < 0 ∨ 68719476736 ≤ n := by
      by_cases a : n < 0
      · exact .inl a
      · by_cases b : 68719476736 ≤ n
        · exact .inr b
        · exact absurd (decide_eq_true (by omega)) hb
    clear hb hf
    rcases hn with hn | hn
    · go_enter Try.func21, Try.ntmps21
      go_wp2
      go_ret2
      exact ⟨rfl, Below.refl _ _⟩
    · go_enter Try.func21, Try.ntmps21
      go_wp2
      go_ret2
      exact ⟨rfl, Below.refl _ _⟩

set_option maxRecDepth 20000 in
set_option maxHeartbeats 800000 in
theorem refcoded_small (n : Nat) (h : n < 128) (w : World) :
    Calls Try.prog 22 #[.int .i64 (n : Int)] w fun e w' => e = .returned (.tuple #[.string (codT n), .int .i64 (codE n)]) ∧ Below w.heap.size w w' := by
  rw [codT_nat n (by omega), codE_nat n (by omega)]
  have e1 : clen n = 1 := by unfold clen; rw [if_pos h]
  rw [e1]
  have hrow : (w.alloc (.cells #[.int .u8 (n : Int)] 5)).rowIs w.heap.size 5 1 (fun j => .int .u8 ((codeAt n 1 j : Nat) : Int)) := by
    refine World.rowIs_alloc w #[.int .u8 (n : Int)] 5 _ (fun i hi => ?_)
    obtain rfl : i = 0 := by simpa using hi
    simp [codeAt, hm]
  have hcv := conv_row (cap := 1) hrow
  clear hrow e1
  go_enter Try.func22, Try.ntmps22
  go_wp2
  go_ret2
  exact ⟨rfl, (Below.refl _ _).alloc (Nat.le_refl _) _⟩

theorem cl_test2 (n c : Nat) (h : n < 68719476736) (h1 : 128 ≤ n) (h2 : 2 ≤ c) (hc : c ≤ clen n) : decide (wrap64 (2 ^ (5 * c + 1)) ≤ (n : Int)) = decide (c < clen n) := by
  have h7 := (clen_range n).2
  have hp : 2 ^ (5 * c + 1) ≤ 2 ^ 36 := Nat.pow_le_pow_right (by decide) (by omega)
  have e : wrap64 (2 ^ (5 * c + 1)) = ((2 ^ (5 * c + 1) : Nat) : Int) := by
    have e1 : ((2 : Int) ^ (5 * c + 1)) = ((2 ^ (5 * c + 1) : Nat) : Int) := by simp
    rw [e1]
    generalize 2 ^ (5 * c + 1) = p at *
    unfold wrap64
    omega
  rw [e]
  have key : 2 ^ (5 * c + 1) ≤ n ↔ c < clen n := by
    unfold clen at *
    rcases seven c (by omega) (by omega) with rfl | rfl | rfl | rfl | rfl | rfl | rfl <;> (repeat' split) <;> simp <;> omega
  rw [Bool.eq_iff_iff]
  simp only [decide_eq_true_eq]
  omega

/-- What the document adds up for the first byte. -/
def hsum (i : Nat) : Nat := 256 - 2 ^ (8 - i)
theorem hsum_step : ∀ i : Fin 8, hsum i.val + 128 / 2 ^ i.val = hsum (i.val + 1) := by decide +kernel
theorem hsum_lt (i : Nat) : hsum i < 256 := by
  unfold hsum
  have := Nat.two_pow_pos (8 - i)
  omega
theorem hsum_walk (i : Nat) (h : i < 8) : wrap64 ((hsum i : Int) + 128 / 2 ^ i) = (hsum (i + 1) : Int) := by
  have hst := hsum_step ⟨i, h⟩
  simp only at hst
  have hl := hsum_lt (i + 1)
  have e : ((128 : Int) / 2 ^ i) = ((128 / 2 ^ i : Nat) : Int) := by simp
  rw [e]
  generalize 128 / 2 ^ i = x at *
  unfold wrap64
  omega
theorem hsum_hm (k : Nat) (h : 2 ≤ k) : hsum k = hm k := by unfold hsum hm; rw [if_neg (by omega)]

set_option maxRecDepth 20000 in
set_option maxHeartbeats 1600000 in
theorem refcoded_great (n : Nat) (h1 : 128 ≤ n) (h : n < 68719476736) (w : World) :
    Calls Try.prog 22 #[.int .i64 (n : Int)] w fun e w' => e = .returned (.tuple #[.string (codT n), .int .i64 (codE n)]) ∧ Below w.heap.size w w' := by
  rw [codT_nat n h, codE_nat n h]
  have hr := clen_range n
  have hbd := clen_bound n h
  have h2 : 2 ≤ clen n := by unfold clen; rw [if_neg (by omega)]; (repeat' split) <;> omega
  have ht := cl_test2 n
  generalize clen n = k at *
  have hmk := made_run k (by omega)
  have hrow := World.rowIs_made w (.int .u8 0) k 5
  have hbel : Below w.heap.size w (w.alloc (.cells (madeCells #[.int .u8 0] k) 5)) := (Below.refl _ _).alloc (Nat.le_refl _) _
  have HB : Hid (n < cbound k) := hbd
  clear hbd
  go_enter Try.func22, Try.ntmps22
  go_wp2
  go_loop [4] (fun t => ∃ (c : Nat), 2 ≤ c ∧ c ≤ k ∧ t = .int .i64 (c : Int)) (fun t => k - (intOf t).toNat)
  case atStart => exact ⟨2, by omega, by omega, rfl⟩
  case round =>
    obtain ⟨c, hc2, hcl, rfl⟩ := hrel
    have hT := ht c h (by omega) hc2 hcl
    clear ht
    by_cases hlt : c < k
    · rw [decide_eq_true hlt] at hT
      go_wp2
      go_round
      case rel => exact ⟨c + 1, by omega, by omega, by go_num⟩
      case measure => simp [intOf]; omega
    · rw [decide_eq_false hlt] at hT
      obtain rfl : c = k := by omega
      have HT : Hid _ := hT
      go_wp2
      clear hT
      go_loopw [0, 6] (fun x y wr => ∃ (t q : Nat), t + 1 ≤ c ∧ q = n / 64 ^ t ∧ x = .int .i64 (q : Int) ∧ y = .int .i64 ((c : Int) - 1 - t) ∧ wr.rowIs w.heap.size 5 c (fun i => .int .u8 ((if c - 1 - i < t then 128 + n / 64 ^ (c - 1 - i) % 64 else 0 : Nat) : Int)) ∧ Below w.heap.size w wr) (fun _ y _ => (intOf y + 1).toNat)
      case atStart => exact ⟨0, n, by omega, by simp, by simp, by simp, hrow.congr (fun i _ => by simp), hbel⟩
      case round =>
        obtain ⟨t, q, htc, hq, rfl, rfl, hr, hb⟩ := hrel
        have hle : q ≤ n := by rw [hq]; exact Nat.div_le_self _ _
        have HD : Hid (q = n / 64 ^ t) := hq
        clear hq
        by_cases hlt : t + 1 < c
        · have hc := hr.cell (i := c - 1 - t) (by omega)
          have hf := hr.frozen (c - 1 - t)
          have hand := i64_and63 (q : Int)
          go_wp2
          go_roundw
          case rel =>
            refine ⟨t + 1, q / 64, by omega, ?_, by go_num, by go_num, ?_, hb.setCell (by simp) _⟩
            · rw [HD.out, Nat.pow_succ, ← Nat.div_div_eq_div_mul]
            · refine (hr.set (c - 1 - t) _).congr (fun i hi => ?_)
              by_cases e : i = c - 1 - t
              · subst e
                rw [if_pos rfl, show c - 1 - (c - 1 - t) = t from by omega, if_pos (by omega), ← HD.out]
                congr 1
              · rw [if_neg e]
                congr 3
                by_cases h : c - 1 - i < t
                · simp [h, show c - 1 - i < t + 1 by omega]
                · simp [h, show ¬ c - 1 - i < t + 1 by omega]
          case measure => simp [intOf]; omega
        · obtain rfl : t = c - 1 := by omega
          have hq2 : q = n / 64 ^ (c - 1) := HD.out
          have hqt : q < 128 := by
            have ht := top_lt n c (by omega) (by omega) HB.out
            rw [hq2]
            rcases seven c (by omega) (by omega) with rfl | rfl | rfl | rfl | rfl | rfl | rfl <;> simp at ht ⊢ <;> omega
          clear hq2
          go_wp2
          go_loop [7, 8] (fun x y => ∃ (i : Nat), i ≤ c ∧ x = .int .i64 ((hsum i : Nat) : Int) ∧ y = .int .i64 (i : Int)) (fun _ y => c - (intOf y).toNat)
          case atStart => exact ⟨0, by omega, rfl, rfl⟩
          case round =>
            obtain ⟨i, hi, rfl, rfl⟩ := hrel
            have hsl := hsum_lt i
            by_cases hic : i < c
            · have hst := hsum_walk i (by omega)
              go_wp2
              go_round
              case rel => exact ⟨i + 1, by omega, by rw [hst], by go_num⟩
              case measure => simp [intOf]; omega
            · obtain rfl : i = c := by omega
              have hr2 : wr.rowIs w.heap.size 5 i (fun j => .int .u8 ((if i - 1 - j < i - 1 then 128 + n / 64 ^ (i - 1 - j) % 64 else 0 : Nat) : Int)) := hr
              have hc := hr2.cell (i := 0) (by omega)
              have hf := hr2.frozen 0
              have HH : Hid ((hsum i + q : Nat) = codeAt n i 0) := by
                show _ = _
                unfold codeAt
                rw [if_pos rfl, hsum_hm i (by omega), HD.out]
              have h0 := codeAt_lt n i 0 (by omega) (by omega) HB.out
              rw [← HH.out] at h0
              have hr3 : (wr.setCell ⟨w.heap.size, 0, none⟩ (.int .u8 ((hsum i : Int) + (q : Int)))).rowIs w.heap.size 5 i (fun j => .int .u8 ((codeAt n i j : Nat) : Int)) := by
                refine (hr2.set 0 _).congr (fun j hj => ?_)
                by_cases e : j = 0
                · subst e
                  rw [if_pos rfl, ← HH.out]
                  simp
                · rw [if_neg e, if_pos (by omega)]
                  unfold codeAt
                  rw [if_neg e]
              have hcv := conv_row (cap := i) hr3
              clear hr hr2 hr3
              go_wp2
              go_ret2
              exact ⟨rfl, hb.setCell (by simp) _⟩

theorem refcoded_spec (n : Int) (h1 : -9223372036854775808 ≤ n) (h2 : n ≤ 9223372036854775807) (w : World) :
    Calls Try.prog 22 #[.int .i64 n] w fun e w' => e = .returned (.tuple #[.string (codT n), .int .i64 (codE n)]) ∧ Below w.heap.size w w' := by
  by_cases hb : codB n = true
  · obtain ⟨m, rfl, hm⟩ := codB_nat hb
    by_cases h : m < 128
    · exact refcoded_small m h w
    · exact refcoded_great m (by omega) hm w
  · have hf : codB n = false := by simpa using hb
    rw [codT_no n hf, codE_no n hf]
    have hn : n < 0 ∨ 68719476736 ≤ n := by
      by_cases a : n < 0
      · exact .inl a
      · by_cases b : 68719476736 ≤ n
        · exact .inr b
        · exact absurd (decide_eq_true (by omega)) hb
    clear hb hf
    rcases hn with hn | hn
    · go_enter Try.func22, Try.ntmps22
      go_wp2
      go_ret2
      exact ⟨rfl, Below.refl _ _⟩
    · go_enter Try.func22, Try.ntmps22
      go_wp2
      go_ret2
      exact ⟨rfl, Below.refl _ _⟩

end Go.Proofs.Ytkbpecckphkhnaa
