/- Own text: arguments of stage 15's laws, opened. the walk of the document's Ogg, bit by bit. the walk of highFirst. -/
import Derived.Test.YtjkamannjgcmiaaDoorG7x
import Derived.Test.YtjkamannjgcmiaaDoorRows
import Derived.Test.YtjkamannjgcmiaaDoorG2x
import Derived.Deep.OwnRows
import Derived.Deep.Draws
import Derived.Laws.BytesArg
import Derived.Laws.Bits64
import Derived.Laws.BitsAllLaws
import Derived.WalkKit
import Derived.WalkLawsBesides
import Derived.RegionTactic
import Derived.Deep.QuietTactic
import Derived.BigQuiet
import Derived.Outline
namespace Go.Proofs.YtjkamannjgcmiaaDoor
open Go.ChangeShapes Go.WideShapes Go.ChangeAt Go.RowKit Go.Deep Go.Joins
set_option linter.unusedSimpArgs false
set_option maxRecDepth 40000
set_option linter.unusedVariables false

section
variable {H : Type} {enc : TypeId × Value → H} {w : World} {held : Bool} {base2 : Nat}
theorem open_ints1 {r : Reach} {v : Value} {d : DataW H} {q : List MemPlace} (hv : Value.okWide Tryd.prog w r base2 37 v) (h : DataW.Trod enc Tryd.prog w 0 (fun _ => true) held 37 v d q) (hw : ∀ n ∈ d.weights Tryd.prog 37, n ≤ reachBytes) :
    ∃ (ao : Option Addr) (cap : Nat) (l : List Int), v = .slice ao l.length cap ∧ IntsAt w ao l ∧ l.length ≤ cap ∧ (ao = none → cap = 0) ∧ l.length + 1 ≤ Rows.uptoBulk d := by
  obtain ⟨ao, len, cap, rfl⟩ := okWide_slice Tryd.underlying37 hv
  obtain ⟨fuel, hf⟩ := h
  obtain ⟨ao', cap', l, hc, h1, h2, h3, h4⟩ := open_row hf hw
  have e : (Value.slice ao len cap) = .slice ao' l.length cap' := by
    have : ([Value.slice ao len cap] : List Value) = [.slice ao' l.length cap'] := hc
    injection this
  exact ⟨ao', cap', l, e, h1, h2, h3, h4⟩
theorem open_pages1 {r : Reach} {v : Value} {d : DataW H} {q : List MemPlace} (hv : Value.okWide Tryd.prog w r base2 22 v) (h : DataW.Trod enc Tryd.prog w 0 (fun _ => true) held 22 v d q) (hw : ∀ n ∈ d.weights Tryd.prog 22, n ≤ reachBytes) :
    ∃ (ao : Option Addr) (cap : Nat) (l : List Pg), v = .slice ao l.length cap ∧ PgsAt w ao l ∧ l.length ≤ 2513169434843 ∧ (∀ p ∈ l, p.gr ≤ 9223372036854775807) ∧ l.length + (lacesL l).length ≤ Rows.uptoBulk d := by
  obtain ⟨ao, len, cap, rfl⟩ := okWide_slice Tryd.underlying22 hv
  obtain ⟨fuel, hf⟩ := h
  obtain ⟨ao', cap', l, hc, h1⟩ := open_pages hf hw
  have e : (Value.slice ao len cap) = .slice ao' l.length cap' := by
    have : ([Value.slice ao len cap] : List Value) = [.slice ao' l.length cap'] := hc
    injection this
  exact ⟨ao', cap', l, e, h1⟩
theorem open_strs1 {r : Reach} {v : Value} {d : DataW H} {q : List MemPlace} (hv : Value.okWide Tryd.prog w r base2 23 v) (h : DataW.Trod enc Tryd.prog w 0 (fun _ => true) held 23 v d q) (hw : ∀ n ∈ d.weights Tryd.prog 23, n ≤ reachBytes) :
    ∃ (ao : Option Addr) (cap : Nat) (K : List ByteArray), v = .slice ao K.length cap ∧ StrsAt w ao K ∧ K.length ≤ 8796093021952 ∧ K.length + (K.map bytesOf).flatten.length ≤ Rows.uptoBulk d ∧ K.length ≤ cap := by
  obtain ⟨ao, len, cap, rfl⟩ := okWide_slice Tryd.underlying23 hv
  obtain ⟨fuel, hf⟩ := h
  obtain ⟨ao', cap', l, hc, h1⟩ := open_strs hf hw
  have e : (Value.slice ao len cap) = .slice ao' l.length cap' := by
    have : ([Value.slice ao len cap] : List Value) = [.slice ao' l.length cap'] := hc
    injection this
  exact ⟨ao', cap', l, e, h1⟩
end

end Go.Proofs.YtjkamannjgcmiaaDoor

namespace Go.Proofs.YtjkamannjgcmiaaDoor
open Go.RowKit
set_option linter.unusedSimpArgs false
set_option linter.unusedVariables false
namespace S3

theorem take_snoc (s : ByteArray) (i : Nat) (h : i < s.size) : (bytesOf s).take (i + 1) = (bytesOf s).take i ++ [(s[i]'h).toNat] := by
  rw [List.take_succ_eq_append_getElem (by rw [bytesOf_length]; exact h), bytesOf_get s i h]
def c32 (s : ByteArray) : Nat := (crcL p32 0#32 (bytesOf s)).toNat


theorem and_pow (n i : Nat) : n &&& 2 ^ i = if n.testBit i then 2 ^ i else 0 := by
  apply Nat.eq_of_testBit_eq
  intro j
  rw [Nat.testBit_and, Nat.testBit_two_pow]
  by_cases h : i = j
  · subst h
    cases n.testBit i <;> simp
  · cases n.testBit i <;> simp [h]

theorem and_top (w : Nat) (T : Nat) (x : BitVec w) (hw : 0 < w) (h32 : w ≤ 32) (hT : T = 2 ^ (w - 1)) : bits .and .i64 (x.toNat : Int) (T : Int) = ((if x.msb then T else 0 : Nat) : Int) := by
  have hl : x.toNat < 2 ^ 32 := Nat.lt_of_lt_of_le x.isLt (Nat.pow_le_pow_right (by decide) h32)
  have hp : 2 ^ (w - 1) ≤ 2 ^ 31 := Nat.pow_le_pow_right (by decide) (by omega)
  rw [i64_and_nat _ _ (by omega) (by omega), hT, and_pow]
  have e : x.msb = x.toNat.testBit (w - 1) := by rw [BitVec.msb_eq_getLsbD_last]; rfl
  rw [e]

theorem shl_all (w A : Nat) (x : BitVec w) (h32 : w ≤ 32) (hA : A = 2 ^ w - 1) : bits .and .i64 ((x.toNat : Int) * 2) (A : Int) = ((x <<< 1).toNat : Int) := by
  have hl : x.toNat < 2 ^ 32 := Nat.lt_of_lt_of_le x.isLt (Nat.pow_le_pow_right (by decide) h32)
  have hp : 2 ^ w ≤ 2 ^ 32 := Nat.pow_le_pow_right (by decide) h32
  have e : (x.toNat : Int) * 2 = ((x.toNat * 2 : Nat) : Int) := by simp
  rw [e, i64_and_nat _ _ (by omega) (by omega), hA, Nat.and_two_pow_sub_one_eq_mod, BitVec.toNat_shiftLeft, Nat.shiftLeft_eq]

theorem bit_at (b k : Nat) (hb : b < 256) : bits .and .i64 (wrap64 ((b : Int) / 2 ^ k)) 1 = ((if b.testBit k then 1 else 0 : Nat) : Int) := by
  have e : (b : Int) / 2 ^ k = ((b / 2 ^ k : Nat) : Int) := by simp
  have hl : b / 2 ^ k ≤ b := Nat.div_le_self _ _
  have h := i64_and_nat (b / 2 ^ k) 1 (by omega) (by decide)
  rw [Nat.and_one_is_mod] at h
  rw [e]
  have e1 : ((1 : Nat) : Int) = 1 := rfl
  rw [e1] at h
  have e2 : wrap64 ((b / 2 ^ k : Nat) : Int) = ((b / 2 ^ k : Nat) : Int) := by
    generalize b / 2 ^ k = z at hl
    unfold wrap64
    omega
  rw [e2, h, Nat.testBit_eq_decide_div_mod_eq]
  rcases Nat.mod_two_eq_zero_or_one (b / 2 ^ k) with h | h <;> simp [h]

theorem bits8_snoc (b k : Nat) (hk : k < 8) : (bits8 b).take (8 - k) = (bits8 b).take (8 - (k + 1)) ++ [b.testBit k] := by
  unfold bits8
  rcases k with _ | _ | _ | _ | _ | _ | _ | _ | k
  · rfl
  · rfl
  · rfl
  · rfl
  · rfl
  · rfl
  · rfl
  · rfl
  · omega

section
variable {w : Nat}
theorem bfold_bit (p n : BitVec w) (b k : Nat) (hk : k < 8) : bfold p n ((bits8 b).take (8 - k)) = bstep p (bfold p n ((bits8 b).take (8 - (k + 1)))) (b.testBit k) := by
  rw [bits8_snoc b k hk, bfold_append]
  rfl
theorem bfold_all (p n : BitVec w) (b : Nat) : bfold p n ((bits8 b).take (8 - 0)) = byteStep p n b := rfl
theorem crcL_take (p n : BitVec w) (s : ByteArray) (i : Nat) (h : i < s.size) : crcL p n ((bytesOf s).take (i + 1)) = byteStep p (crcL p n ((bytesOf s).take i)) (s[i]'h).toNat := by
  rw [take_snoc s i h, crcL_append]
  rfl
end

set_option maxRecDepth 20000 in
set_option maxHeartbeats 4000000 in
theorem refSum_32 (s : ByteArray) (hs : s.size ≤ 200000000000000) (w : World) :
    Calls Tryd.prog 63 #[.string s, .int .i64 32, .int .i64 79764919] w fun e w' => e = .returned (.int .i64 (((crcL p32 0#32 (bytesOf s)).toNat : Nat) : Int)) ∧ w' = w := by
  go_enter Tryd.func63, Tryd.ntmps63
  go_wp2
  go_loop [9, 10] (fun n t => ∃ (i : Nat) (r : BitVec 32), i ≤ s.size ∧ r = crcL p32 0#32 ((bytesOf s).take i) ∧ n = .int .i64 (r.toNat : Int) ∧ t = .int .i64 (i : Int)) (fun _ t => s.size - (intOf t).toNat)
  case atStart => exact ⟨0, 0#32, Nat.zero_le _, rfl, rfl, rfl⟩
  case round =>
    obtain ⟨i, r0, hi, hr0, rfl, rfl⟩ := hrel
    by_cases hlt : i < s.size
    · have hx : (s[i]'hlt).toNat < 256 := UInt8.toNat_lt _
      have HR : Hid (byteStep p32 r0 (s[i]'hlt).toNat = crcL p32 0#32 ((bytesOf s).take (i + 1))) := by
        show _ = _
        rw [crcL_take, ← hr0]
      clear hr0
      go_wp2
      go_loop [9, 11] (fun n t => ∃ (m : Nat) (r : BitVec 32), m ≤ 8 ∧ r = bfold p32 r0 ((bits8 (s[i]'hlt).toNat).take (8 - m)) ∧ n = .int .i64 (r.toNat : Int) ∧ t = .int .i64 ((m : Int) - 1)) (fun _ t => (intOf t + 1).toNat)
      case atStart => exact ⟨8, r0, Nat.le_refl _, rfl, rfl, rfl⟩
      case round =>
        obtain ⟨m, r, hm, hr, rfl, rfl⟩ := hrel
        rcases m with _ | k
        · have HR2 : Hid (r = crcL p32 0#32 ((bytesOf s).take (i + 1))) := hr.trans HR.out
          clear hr
          go_wp2
          go_round
          case rel => exact ⟨i + 1, r, by omega, HR2.out, rfl, by go_num⟩
          case measure => simp [intOf]; omega
        · have ek : ((k + 1 : Nat) : Int) - 1 = (k : Int) := by omega
          rw [ek]
          clear ek
          have HB : Hid (bstep p32 r ((s[i]'hlt).toNat.testBit k) = bfold p32 r0 ((bits8 (s[i]'hlt).toNat).take (8 - k))) := by
            show _ = _
            rw [bfold_bit _ _ _ _ (by omega), ← hr]
          clear hr
          have hbit := bit_at (s[i]'hlt).toNat k hx
          have hmsb : bits .and .i64 (r.toNat : Int) 2147483648 = ((if r.msb then 2147483648 else 0 : Nat) : Int) := and_top 32 2147483648 r (by decide) (by decide) (by decide)
          have hshl : bits .and .i64 ((r.toNat : Int) * 2) 4294967295 = ((r <<< 1).toNat : Int) := shl_all 32 4294967295 r (by decide) (by decide)
          have hrl : r.toNat < 4294967296 := r.isLt
          have hsl : (r <<< 1).toNat < 4294967296 := (r <<< 1).isLt
          have hxr : bits .xor .i64 ((r <<< 1).toNat : Int) 79764919 = (((r <<< 1).toNat ^^^ 79764919 : Nat) : Int) := i64_xor_nat (r <<< 1).toNat 79764919 (by omega) (by decide)
          have HY : Hid (∀ b : Bool, (bstep p32 r b).toNat = if r.msb != b then (r <<< 1).toNat ^^^ 79764919 else (r <<< 1).toNat) := by
            intro b
            unfold bstep
            rw [BitVec.toNat_xor]
            cases r.msb <;> cases b <;> simp [p32]
          generalize (s[i]'hlt).toNat.testBit k = bt at hbit HB
          generalize (r <<< 1).toNat = sl at *
          generalize r.msb = mb at *
          have hm2 := hmsb
          have hb2 := hbit
          clear hmsb hbit
          rcases bt with _ | _ <;> rcases mb with _ | _
          · have hbit : bits .and .i64 (wrap64 (((s[i]'hlt).toNat : Int) / 2 ^ k)) 1 = 0 := hb2
            have hmsb : bits .and .i64 (r.toNat : Int) 2147483648 = 0 := hm2
            clear hb2 hm2
            go_wp2
            go_round
            case rel => exact ⟨k, _, by omega, HB.out, by rw [HY.out]; rfl, by go_num⟩
            case measure => simp [intOf]
          · have hbit : bits .and .i64 (wrap64 (((s[i]'hlt).toNat : Int) / 2 ^ k)) 1 = 0 := hb2
            have hmsb : bits .and .i64 (r.toNat : Int) 2147483648 = 2147483648 := hm2
            clear hb2 hm2
            go_wp2
            go_round
            case rel => exact ⟨k, _, by omega, HB.out, by rw [HY.out]; rfl, by go_num⟩
            case measure => simp [intOf]
          · have hbit : bits .and .i64 (wrap64 (((s[i]'hlt).toNat : Int) / 2 ^ k)) 1 = 1 := hb2
            have hmsb : bits .and .i64 (r.toNat : Int) 2147483648 = 0 := hm2
            clear hb2 hm2
            go_wp2
            go_round
            case rel => exact ⟨k, _, by omega, HB.out, by rw [HY.out]; rfl, by go_num⟩
            case measure => simp [intOf]
          · have hbit : bits .and .i64 (wrap64 (((s[i]'hlt).toNat : Int) / 2 ^ k)) 1 = 1 := hb2
            have hmsb : bits .and .i64 (r.toNat : Int) 2147483648 = 2147483648 := hm2
            clear hb2 hm2
            go_wp2
            go_round
            case rel => exact ⟨k, _, by omega, HB.out, by rw [HY.out]; rfl, by go_num⟩
            case measure => simp [intOf]
    · have HR : Hid (r0 = crcL p32 0#32 (bytesOf s)) := by
        show _ = _
        rw [hr0, List.take_of_length_le (by rw [bytesOf_length]; omega)]
      clear hr0
      go_wp2
      go_ret
      exact ⟨by rw [← HR.out]; rfl, rfl⟩

set_option maxRecDepth 20000 in
set_option maxHeartbeats 400000 in
theorem refOgg_spec (s : ByteArray) (hs : s.size ≤ 200000000000000) (w : World) : Calls Tryd.prog 42 #[.string s] w fun e w' => e = .returned (.int .i64 (c32 s : Int)) ∧ w' = w := by
  have HC : Hid (∀ w, Calls Tryd.prog 63 #[.string s, .int .i64 32, .int .i64 79764919] w fun e w' => e = .returned (.int .i64 (c32 s : Int)) ∧ w' = w) := fun w => refSum_32 s hs w
  generalize c32 s = v at HC ⊢
  go_enter Tryd.func42, Tryd.ntmps42
  go_wp2_with fail
  refine (HC.out w).mono ?_
  rintro e w1 ⟨rfl, rfl⟩
  go_wp2
  go_ret
  exact ⟨rfl, rfl⟩

end S3
end Go.Proofs.YtjkamannjgcmiaaDoor

namespace Go.Proofs.YtjkamannjgcmiaaDoor
open Go.RowKit
set_option linter.unusedSimpArgs false
set_option linter.unusedVariables false
namespace S2



theorem Tryd.info5 : (Tryd.prog.info? 5).map (fun i => (i.zero, i.size, i.bytes)) = some (some (.int .u8 0), 1, 1) := by kernel_rfl

theorem made_run (n : Nat) (h : n ≤ 281474976710656) (w : World) :
    (Instr.makeSlice 51 (.int .i64 (n : Int)) (.int .i64 (n : Int))).run Tryd.prog w = .ok (.slice (some ⟨w.heap.size, 0, none⟩) n n) (w.alloc (.cells (madeCells #[.int .u8 0] n) 5)) :=
  run_make_row' 51 5 (.int .u8 0) 1 Tryd.underlying51 Tryd.info5 rfl .i64 .i64 n (by omega) (by omega) w

theorem textOf_eq (bs : List Nat) : textOf bs = strOfNums (bs.map fun (b : Nat) => (b : Int)) := by
  unfold textOf strOfNums
  rw [List.map_map]
  congr 2

/-- A row of bytes, as a text. -/
theorem conv_row {w : World} {g cap : Nat} {f : Nat → Nat} {n : Nat} (h : w.rowIs g 5 n (fun i => .int .u8 (f i : Int))) :
    (convert 51 9 (.slice (some ⟨g, 0, none⟩) n cap)).run Tryd.prog w = .ok (.string (textOf ((List.range n).map f))) w := by
  rw [textOf_eq]
  refine run_convert_bytes_arg w 51 5 Tryd.underlying51 Tryd.underlying5 g 0 n cap _ (by simp) (fun i hi => ?_) 9 Tryd.underlying9
  rw [Nat.zero_add, h.cell hi]
  simp [List.getD, hi]

theorem pow8 (i : Nat) : (2 : Nat) ^ (8 * i) = 256 ^ i := by rw [Nat.pow_mul]

theorem byte_at (n i : Nat) : ((n : Int) / 2 ^ (8 * i)) % 256 = ((n / 256 ^ i % 256 : Nat) : Int) := by
  have e : ((2 : Int) ^ (8 * i)) = ((256 ^ i : Nat) : Int) := by rw [← pow8]; simp
  rw [e]
  omega

set_option maxRecDepth 20000 in
set_option maxHeartbeats 800000 in
theorem lowFirst_spec (n k : Nat) (hn : n < 18446744073709551616) (hk : k ≤ 8) (w : World) :
    Calls Tryd.prog 75 #[.int .u64 (n : Int), .int .i64 (k : Int)] w fun e w' => e = .returned (.string (textOf (lowL n k))) ∧ Below w.heap.size w w' := by
  have hmk := made_run k (by omega)
  go_enter Tryd.func75, Tryd.ntmps75
  go_wp2
  have hrow := World.rowIs_made w (.int .u8 0) k 5
  have hbel : Below w.heap.size w (w.alloc (.cells (madeCells #[.int .u8 0] k) 5)) := (Below.refl _ _).alloc (Nat.le_refl _) _
  go_loopw [10] (fun t wr => ∃ (i : Nat), i ≤ k ∧ t = .int .i64 (i : Int) ∧ wr.rowIs w.heap.size 5 k (fun j => .int .u8 ((if j < i then n / 256 ^ j % 256 else 0 : Nat) : Int)) ∧ Below w.heap.size w wr) (fun t _ => k - (intOf t).toNat)
  case atStart => exact ⟨0, Nat.zero_le _, rfl, hrow.congr (fun i _ => by simp), hbel⟩
  case round =>
    obtain ⟨i, hi, rfl, hr, hb⟩ := hrel
    by_cases hlt : i < k
    · have hc := hr.cell hlt
      have hf := hr.frozen i
      go_wp2
      go_roundw
      case rel =>
        refine ⟨i + 1, by omega, by go_num, ?_, hb.setCell (by simp) _⟩
        rw [byte_at]
        refine (hr.set i _).congr (fun j hj => ?_)
        by_cases e : j = i
        · subst e; simp
        · simp only [e, if_false]
          congr 3
          by_cases h : j < i
          · simp [h, show j < i + 1 by omega]
          · simp [h, show ¬ j < i + 1 by omega]
      case measure => simp [intOf]; omega
    · obtain rfl : i = k := by omega
      have hr2 : wr.rowIs w.heap.size 5 i (fun j => .int .u8 ((n / 256 ^ j % 256 : Nat) : Int)) := hr.congr (fun j hj => by simp [hj])
      have hcv := conv_row (cap := i) hr2
      clear hr
      go_wp2
      go_ret
      exact ⟨rfl, hb⟩

set_option maxRecDepth 20000 in
set_option maxHeartbeats 800000 in
theorem turned_spec (s : ByteArray) (hs : s.size ≤ 200000000000000) (w : World) :
    Calls Tryd.prog 62 #[.string s] w fun e w' => e = .returned (.string (textOf (bytesOf s).reverse)) ∧ Below w.heap.size w w' := by
  have hmk := made_run s.size (by omega)
  have hrow := World.rowIs_made w (.int .u8 0) s.size 5
  have hbel : Below w.heap.size w (w.alloc (.cells (madeCells #[.int .u8 0] s.size) 5)) := (Below.refl _ _).alloc (Nat.le_refl _) _
  go_enter Tryd.func62, Tryd.ntmps62
  go_wp2
  go_loopw [4] (fun t wr => ∃ (i : Nat), i ≤ s.size ∧ t = .int .i64 (i : Int) ∧ wr.rowIs w.heap.size 5 s.size (fun j => .int .u8 ((if s.size - 1 - j < i then (bytesOf s).getD (s.size - 1 - j) 0 else 0 : Nat) : Int)) ∧ Below w.heap.size w wr) (fun t _ => s.size - (intOf t).toNat)
  case atStart => exact ⟨0, Nat.zero_le _, rfl, hrow.congr (fun i _ => by simp), hbel⟩
  case round =>
    obtain ⟨i, hi, rfl, hr, hb⟩ := hrel
    by_cases hlt : i < s.size
    · have hc := hr.cell (i := s.size - 1 - i) (by omega)
      have hf := hr.frozen (s.size - 1 - i)
      have hg : (bytesOf s).getD i 0 = (s[i]'hlt).toNat := by
        rw [List.getD_eq_getElem?_getD, List.getElem?_eq_getElem (by rw [bytesOf_length]; exact hlt), bytesOf_get s i hlt]
        rfl
      have HG : Hid _ := hg
      clear hg
      go_wp2
      go_roundw
      case rel =>
        refine ⟨i + 1, by omega, by go_num, ?_, hb.setCell (by simp) _⟩
        refine (hr.set (s.size - 1 - i) _).congr (fun j hj => ?_)
        by_cases e : j = s.size - 1 - i
        · subst e
          rw [if_pos rfl, show s.size - 1 - (s.size - 1 - i) = i from by omega, HG.out]
          simp
        · rw [if_neg e]
          congr 3
          by_cases h : s.size - 1 - j < i
          · simp [h, show s.size - 1 - j < i + 1 by omega]
          · simp [h, show ¬ s.size - 1 - j < i + 1 by omega]
      case measure => simp [intOf]; omega
    · obtain rfl : i = s.size := by omega
      have hr2 : wr.rowIs w.heap.size 5 s.size (fun j => .int .u8 (((bytesOf s).getD (s.size - 1 - j) 0 : Nat) : Int)) := hr.congr (fun j hj => by rw [if_pos (by omega)])
      have hcv := conv_row (cap := s.size) hr2
      have he : (List.range s.size).map (fun j => (bytesOf s).getD (s.size - 1 - j) 0) = (bytesOf s).reverse := by
        apply List.ext_getElem
        · simp [bytesOf_length]
        · intro j h1 h2
          have hj : j < s.size := by simpa using h1
          simp only [List.getElem_map, List.getElem_range, List.getElem_reverse, bytesOf_length]
          rw [List.getD_eq_getElem?_getD, List.getElem?_eq_getElem (by rw [bytesOf_length]; omega)]
          rfl
      rw [he] at hcv
      clear hr he
      go_wp2
      go_ret
      exact ⟨rfl, hb⟩

/-- Does a number fit, asked by the program and by the document. -/
theorem shr_zero (m k : Nat) : (((m : Int) / 2 ^ (8 * k)) == 0) = decide (m < 256 ^ k) := by
  have e : ((2 : Int) ^ (8 * k)) = ((256 ^ k : Nat) : Int) := by rw [← pow8]; simp
  rw [e, Bool.eq_iff_iff]
  have h0 : 0 < 256 ^ k := Nat.pow_pos (by decide)
  simp only [beq_iff_eq, decide_eq_true_eq]
  have : ((m : Int) / ((256 ^ k : Nat) : Int)) = ((m / 256 ^ k : Nat) : Int) := by simp
  rw [this]
  have h1 : m / 256 ^ k = 0 ↔ m < 256 ^ k := Nat.div_eq_zero_iff_lt h0
  omega

end S2
end Go.Proofs.YtjkamannjgcmiaaDoor
