/- Own text: the walks of le, total, lacesIn, layLaces. sheets; the walks of layGranule, granuleIn. -/
import Derived.Test.YtjkamannjgcmiaaDoorG5x
import Derived.Test.YtjkamannjgcmiaaDoorG9x
import Derived.Test.YtjkamannjgcmiaaDoorP15back
namespace Go.Proofs.YtjkamannjgcmiaaDoor
open Go.RowKit
set_option linter.unusedSimpArgs false
set_option linter.unusedVariables false

theorem int_info15 : ∃ i, Tryd.prog.info? 3 = some i ∧ i.zero = some (.int .i64 0) ∧ i.size = 1 ∧ i.bytes = 8 := info_parts5 (show (Tryd.prog.info? 3).map (fun i => (i.zero, i.size, i.bytes)) = some (some (.int .i64 0), 1, 8) from by kernel_rfl)
theorem set15 (w : World) (p i : Nat) (cs : Array Value) (t : TypeId) (u : Value) (h : w.heap[p]? = some (.cells cs t (0, 0))) : (w.setCell ⟨p, i, none⟩ u).heap[p]? = some (.cells (cs.setIfInBounds i u) t (0, 0)) := by
  simp only [World.setCell, Array.getElem?_modify, h]
  simp
theorem make_ints (n : Nat) (hn : n ≤ 17592186044415) (w : World) : (Instr.makeSlice 37 (.int .i64 (n : Int)) (.int .i64 (n : Int))).run Tryd.prog w = .ok (.slice (some ⟨w.heap.size, 0, none⟩) n n) (w.alloc (.cells (madeCells #[.int .i64 0] n) 3)) := by
  obtain ⟨i, h1, h2, h3, h4⟩ := int_info15
  have hh := run_make (P := Tryd.prog) w 37 3 i _ Tryd.underlying37 h1 h2 .i64 .i64 (n : Int) (n : Int) (by omega) (Int.le_refl _) (by rw [h4]; omega) (by omega)
  rw [h3] at hh
  simpa [Value.cells] using hh
/-- A row of numbers in memory: the first i are those of L, the rest 0. -/
structure Fill (w : World) (g : Nat) (L : List Int) (i : Nat) (wx : World) : Prop where
  row : ∃ cs : Array Value, wx.heap[g]? = some (.cells cs 3 (0, 0)) ∧ ∀ j, j < L.length → cs[j]? = some (.int .i64 (if j < i then L.getD j 0 else 0))
  below : Below w.heap.size w wx
  le : w.heap.size ≤ g
section
variable {w wx w' : World} {g : Nat} {L : List Int} {i : Nat}
theorem Fill.made (w wx : World) (hb : Below w.heap.size w wx) (L : List Int) : Fill w wx.heap.size L 0 (wx.alloc (.cells (madeCells #[.int .i64 0] L.length) 3)) := by
  refine ⟨⟨_, heap_alloc_new _ _, fun j hj => ?_⟩, hb.alloc hb.size _, hb.size⟩
  rw [if_neg (Nat.not_lt_zero _)]
  simp only [madeCells, Array.getElem?_map, Array.getElem?_range, hj, if_true, Option.map_some]
  have hs : (#[.int .i64 0] : Array Value).size = 1 := rfl
  rw [hs, Nat.mod_one]
  rfl
theorem Fill.lt (h : Fill w g L i wx) : g < wx.heap.size := by obtain ⟨cs, h1, _⟩ := h.row; exact lt_of_block h1
theorem Fill.low (h : Fill w g L i wx) (hb : Below wx.heap.size wx w') : Fill w g L i w' := by
  obtain ⟨cs, h1, h2⟩ := h.row
  exact ⟨⟨cs, by rw [hb.block _ (lt_of_block h1)]; exact h1, h2⟩, h.below.trans (hb.mono h.below.size), h.le⟩
theorem Fill.drew (h : Fill w g L i wx) : Fill w g L i wx.drew := h.low ⟨rfl, rfl, rfl, Nat.le_refl _, fun _ _ => rfl⟩
theorem Fill.cell (h : Fill w g L i wx) (j : Nat) (hj : j < L.length) : wx.cell? ⟨g, j, none⟩ = some (.int .i64 (if j < i then L.getD j 0 else 0)) := by
  obtain ⟨cs, h1, h2⟩ := h.row
  rw [cell_of_row _ _ _ _ _ _ h1]; exact h2 j hj
theorem Fill.frozen (h : Fill w g L i wx) (j : Nat) : wx.frozen? ⟨g, j, none⟩ = false := by
  obtain ⟨cs, h1, _⟩ := h.row
  simp [World.frozen?, h1]
theorem Fill.set (h : Fill w g L i wx) (hi : i < L.length) : Fill w g L (i + 1) (wx.setCell ⟨g, i, none⟩ (.int .i64 (L.getD i 0))) := by
  obtain ⟨cs, h1, h2⟩ := h.row
  refine ⟨⟨cs.setIfInBounds i (.int .i64 (L.getD i 0)), set15 _ _ _ _ _ _ h1, fun j hj => ?_⟩, h.below.setCell h.le _, h.le⟩
  rw [Array.getElem?_setIfInBounds]
  by_cases e : i = j
  · subst e
    have hlt : i < cs.size := by
      rcases Nat.lt_or_ge i cs.size with h3 | h3
      · exact h3
      · have := h2 i hi; rw [Array.getElem?_eq_none h3] at this; cases this
    rw [if_pos rfl, if_pos hlt, if_pos (by omega)]
  · rw [if_neg e, h2 j hj]
    by_cases e2 : j < i
    · rw [if_pos e2, if_pos (by omega)]
    · rw [if_neg e2, if_neg (by omega)]
theorem Fill.other (h : Fill w g L i wx) (p : Addr) (u : Value) (hp : p.block ≠ g) (hl : w.heap.size ≤ p.block) : Fill w g L i (wx.setCell p u) := by
  obtain ⟨cs, h1, h2⟩ := h.row
  exact ⟨⟨cs, by rw [Below.heap_setCell wx p u g (fun e => hp e.symm)]; exact h1, h2⟩, h.below.setCell hl _, h.le⟩
theorem Fill.ints (h : Fill w g L L.length wx) (hl : L.length ≤ 17592186044415) (hn : ∀ n ∈ L, -9223372036854775808 ≤ n ∧ n ≤ 9223372036854775807) : IntsAt wx (some ⟨g, 0, none⟩) L :=
  ⟨hl, hn, fun _ => ⟨g, 0, rfl, fun j hj => by rw [Nat.zero_add, h.cell j hj, if_pos hj]⟩⟩
end

theorem nat_lt (k m : Nat) (h8 : k ≤ 8) (hm : m < 256 ^ k) (hk : k ≤ 4) : m ≤ 4294967295 := by
  have := Nat.pow_le_pow_right (n := 256) (by decide) hk
  omega
set_option maxRecDepth 20000 in
set_option maxHeartbeats 1600000 in
theorem j_le (m k : Nat) (h1 : 1 ≤ k) (h4 : k ≤ 4) (hm : m < 256 ^ k) (w : World) : Calls Tryd.prog 48 #[.int .i64 (m : Int), .int .i64 (k : Int)] w fun e w' => e = .returned (.string (textOf (S2.lowL m k))) ∧ Below w.heap.size w w' := by
  have hm4 := nat_lt k m (by omega) hm h4
  have kl := S2.le_spec (m : Int) (k : Int) (by omega) (by omega) w
  have hf : S2.fitsB (m : Int) (k : Int) = true := by rw [S2.fits_eq m k h1 (by omega)]; exact decide_eq_true hm
  rw [S2.leT_nat m k hf] at kl
  clear hf
  generalize textOf (S2.lowL m k) = X at *
  generalize S2.wE (m : Int) (k : Int) = E at *
  go_enter Tryd.func48, Tryd.ntmps48
  go_wp2_with fail
  refine kl.mono ?_
  rintro e w1 ⟨rfl, hb⟩
  have HB : Hid (Below w.heap.size w w1) := hb
  clear hb kl
  go_wp2_with fail
  go_ret
  exact ⟨rfl, HB.out⟩
theorem jsum_take (l : List Int) (k : Nat) (h : k < l.length) : (natL (l.take (k + 1))).sum = (natL (l.take k)).sum + (l.getD k 0).toNat := by
  rw [take_snoc l k h]
  unfold natL
  rw [List.map_append, List.sum_append]
  simp
theorem jsum_le (l : List Int) (hl : lacOk l) (k : Nat) : (natL (l.take k)).sum ≤ 255 * k := by
  induction k with
  | zero => simp [natL]
  | succ k ih =>
    by_cases h : k < l.length
    · rw [jsum_take l k h]
      have := hl _ (getD_mem l k h)
      omega
    · rw [List.take_of_length_le (by omega)]
      rw [List.take_of_length_le (by omega)] at ih
      omega
set_option maxRecDepth 20000 in
set_option maxHeartbeats 1600000 in
theorem j_total (l : List Int) (ao : Option Addr) (c : Nat) (w : World) (h : IntsAt w ao l) (hl : lacOk l) : Calls Tryd.prog 46 #[.slice ao l.length c] w fun e w' => e = .returned (.int .i64 ((natL l).sum : Nat)) ∧ w' = w := by
  have HL : Hid (IntsAt w ao l) := h
  have hlen := h.len
  have HO : Hid (lacOk l) := hl
  clear h hl
  go_enter Tryd.func46, Tryd.ntmps46
  go_wp2_with fail
  go_loopw [3, 8] (fun u t wr => ∃ k : Nat, k ≤ l.length ∧ u = .int .i64 (((natL (l.take k)).sum : Nat) : Int) ∧ t = .int .i64 (k : Int) ∧ wr = w) (fun _ t _ => l.length - (intOf t).toNat)
  case atStart => exact ⟨0, Nat.zero_le _, rfl, rfl, rfl⟩
  case round =>
    obtain ⟨k, hk, hu, rfl, hw⟩ := hrel
    have HW : Hid (wr = w) := hw
    clear hw
    by_cases hlt : k < l.length
    · obtain ⟨b, off, rfl, hc⟩ := HL.out.at k hlt
      have cx := hc wr (by rw [HW.out]; exact Below.refl _ _)
      clear hc
      have HS : Hid ((natL (l.take (k + 1))).sum = (natL (l.take k)).sum + (l.getD k 0).toNat) := jsum_take l k hlt
      have h1 := HO.out _ (getD_mem l k hlt)
      have h2 := jsum_le l HO.out k
      generalize l.getD k 0 = x at *
      generalize (natL (l.take k)).sum = S at *
      subst hu
      go_wp2_with fail
      go_roundw
      case rel => exact ⟨k + 1, by omega, by rw [HS.out]; go_num, by go_num, HW.out⟩
      case measure => simp [intOf]; omega
    · have he : k = l.length := by omega
      rw [he, List.take_of_length_le (Nat.le_refl _)] at hu
      subst hu
      clear he
      go_wp2_with fail
      go_ret
      exact ⟨rfl, HW.out⟩

def numsL (s : ByteArray) : List Int := (bytesOf s).map fun x : Nat => (x : Int)
theorem numsL_len (s : ByteArray) : (numsL s).length = s.size := by unfold numsL; rw [List.length_map, bytesOf_length]
theorem numsL_at (s : ByteArray) (j : Nat) (h : j < s.size) : (numsL s).getD j 0 = ((s[j]'h).toNat : Int) := by
  unfold numsL
  rw [List.getD_eq_getElem?_getD, List.getElem?_map, List.getElem?_eq_getElem (by rw [bytesOf_length]; exact h), bytesOf_get s j h]
  rfl
theorem numsL_rng (s : ByteArray) : ∀ n ∈ numsL s, -9223372036854775808 ≤ n ∧ n ≤ 9223372036854775807 := by
  intro n hn
  obtain ⟨x, hx, rfl⟩ := List.mem_map.1 hn
  have := bytesOf_lt s x hx
  omega
set_option maxRecDepth 20000 in
set_option maxHeartbeats 1600000 in
theorem j_lacesIn (s : ByteArray) (hs : s.size ≤ 255) (w : World) : Calls Tryd.prog 57 #[.string s] w fun e w' => e = .returned (.slice (some ⟨w.heap.size, 0, none⟩) s.size s.size) ∧ IntsAt w' (some ⟨w.heap.size, 0, none⟩) (numsL s) ∧ Below w.heap.size w w' := by
  have hmk := make_ints s.size (by omega) w
  have hf0 : Fill w w.heap.size (numsL s) 0 (w.alloc (.cells (madeCells #[.int .i64 0] s.size) 3)) := by
    have := Fill.made w w (Below.refl _ _) (numsL s)
    rwa [numsL_len] at this
  have HF := hid hf0
  clear hf0
  go_enter Tryd.func57, Tryd.ntmps57
  go_wp2_with fail
  generalize hw1 : w.alloc (.cells (madeCells #[.int .i64 0] s.size) 3) = w1 at *
  clear hw1 hmk
  go_loopw [10] (fun t wr => ∃ k : Nat, k ≤ s.size ∧ t = .int .i64 (k : Int) ∧ Fill w w.heap.size (numsL s) k wr) (fun t _ => s.size - (intOf t).toNat)
  case atStart => exact ⟨0, Nat.zero_le _, rfl, HF.out⟩
  case round =>
    obtain ⟨k, hk, rfl, hr⟩ := hrel
    have HR := hid hr
    clear hr
    by_cases hlt : k < s.size
    · have hc := HR.out.cell k (by rw [numsL_len]; exact hlt)
      have hfz := HR.out.frozen k
      have HS := hid (HR.out.set (by rw [numsL_len]; exact hlt))
      have hx : (s[k]'hlt).toNat < 256 := UInt8.toNat_lt _
      rw [numsL_at s k hlt] at HS
      have HX : Hid (wrap64 ((s[k]'hlt).toNat : Int) = ((s[k]'hlt).toNat : Int)) := by
        show _ = _
        unfold wrap64
        omega
      go_wp2_with fail
      go_roundw
      case rel => exact ⟨k + 1, by omega, by go_num, HS.out⟩
      case measure => simp [intOf]; omega
    · obtain rfl : k = s.size := by omega
      have HI : Hid (IntsAt wr (some ⟨w.heap.size, 0, none⟩) (numsL s)) := Fill.ints (by have := HR.out; rwa [← numsL_len] at this) (by rw [numsL_len]; omega) (numsL_rng s)
      go_wp2_with fail
      go_ret
      exact ⟨rfl, HI.out, HR.out.below⟩

set_option maxRecDepth 20000 in
set_option maxHeartbeats 1600000 in
theorem j_layLaces (l : List Int) (ao : Option Addr) (c : Nat) (w : World) (h : IntsAt w ao l) (hl : lacOk l) (hn : l.length ≤ 255) : Calls Tryd.prog 50 #[.slice ao l.length c] w fun e w' => e = .returned (.string (textOf (natL l))) ∧ Below w.heap.size w w' := by
  have HL : Hid (IntsAt w ao l) := h
  have HO : Hid (lacOk l) := hl
  clear h hl
  have hmk := S2.made_run l.length (by omega) w
  have hrow := World.rowIs_made w (.int .u8 0) l.length 5
  have hbel : Below w.heap.size w (w.alloc (.cells (madeCells #[.int .u8 0] l.length) 5)) := (Below.refl _ _).alloc (Nat.le_refl _) _
  go_enter Tryd.func50, Tryd.ntmps50
  go_wp2_with fail
  go_loopw [11] (fun t wr => ∃ k : Nat, k ≤ l.length ∧ t = .int .i64 (k : Int) ∧ wr.rowIs w.heap.size 5 l.length (fun j => .int .u8 ((if j < k then (natL l).getD j 0 else 0 : Nat) : Int)) ∧ Below w.heap.size w wr) (fun t _ => l.length - (intOf t).toNat)
  case atStart => exact ⟨0, Nat.zero_le _, rfl, hrow.congr (fun i _ => by simp), hbel⟩
  case round =>
    obtain ⟨k, hk, rfl, hr, hb⟩ := hrel
    by_cases hlt : k < l.length
    · have hc := hr.cell hlt
      have hf := hr.frozen k
      have HR := hid hr
      have HB := hid hb
      clear hr hb
      obtain ⟨b, off, rfl, hcc⟩ := HL.out.at k hlt
      have cx := hcc wr HB.out
      clear hcc
      have h1 := HO.out _ (getD_mem l k hlt)
      have HX : Hid ((natL l).getD k 0 = (l.getD k 0).toNat) := by
        show _ = _
        unfold natL
        rw [List.getD_eq_getElem?_getD, List.getElem?_map, List.getElem?_eq_getElem hlt, List.getD_eq_getElem?_getD, List.getElem?_eq_getElem hlt]
        rfl
      generalize l.getD k 0 = x at *
      obtain ⟨q, rfl⟩ : ∃ q : Nat, x = (q : Int) := ⟨x.toNat, by omega⟩
      have hq : (q : Int) % 256 = (q : Int) := by omega
      go_wp2_with fail
      go_roundw
      case rel =>
        refine ⟨k + 1, by omega, by go_num, ?_, HB.out.setCell (by simp) _⟩
        refine (HR.out.set k _).congr (fun j hj => ?_)
        by_cases e : j = k
        · subst e
          rw [if_pos rfl, if_pos (by omega), HX.out]
          simp
        · rw [if_neg e]
          by_cases h : j < k
          · rw [if_pos h, if_pos (by omega)]
          · rw [if_neg h, if_neg (by omega)]
      case measure => simp [intOf]; omega
    · obtain rfl : k = l.length := by omega
      have hn2 : natL l = (List.range l.length).map fun j => (natL l).getD j 0 := by
        apply List.ext_getElem
        · simp [natL]
        · intro i h1 h2
          rw [List.getElem_map, List.getElem_range, List.getD_eq_getElem?_getD, List.getElem?_eq_getElem h1]
          rfl
      have hr2 : wr.rowIs w.heap.size 5 l.length (fun j => .int .u8 ((((natL l).getD j 0 : Nat)) : Int)) := hr.congr (fun j hj => by rw [if_pos hj])
      have hcv := S2.conv_row (cap := l.length) hr2
      rw [← hn2] at hcv
      clear hr hr2 hn2
      have HB := hid hb
      clear hb
      go_wp2_with fail
      go_ret
      exact ⟨rfl, HB.out⟩

end Go.Proofs.YtjkamannjgcmiaaDoor

namespace Go.Proofs.YtjkamannjgcmiaaDoor
open Go.RowKit
set_option linter.unusedSimpArgs false
set_option linter.unusedVariables false

/-- A page with its bytes. -/
structure Sh where
  p : Pg
  b : ByteArray
abbrev shC (x : Sh) (ao : Option Addr) (c : Nat) : List Value := [.int .i64 x.p.fl, .int .i64 x.p.se, .int .i64 x.p.sq, .int .i64 x.p.gr, .slice ao x.p.la.length c, .string x.b]
abbrev shV (x : Sh) (ao : Option Addr) (c : Nat) : Value := .agg (shC x ao c).toArray
theorem and_low (n : Int) : bits BinOp.and IntKind.i64 n 4294967295 = n % 4294967296 := by
  show IntKind.wrap .i64 ((BitVec.ofInt 64 n &&& BitVec.ofInt 64 4294967295).toNat : Int) = _
  rw [BitVec.toNat_and, BitVec.toNat_ofInt, show (BitVec.ofInt 64 4294967295).toNat = 2 ^ 32 - 1 from rfl, Nat.and_two_pow_sub_one_eq_mod, IntKind.wrap_i64]
  omega
theorem low_split (a k j : Nat) : S2.lowL a (k + j) = S2.lowL (a % 256 ^ k) k ++ S2.lowL (a / 256 ^ k) j := by
  induction k generalizing a with
  | zero => simp [S2.lowL, Nat.mod_one]
  | succ k ih =>
    rw [show k + 1 + j = (k + j) + 1 by omega, low_succ, low_succ, ih, List.cons_append]
    have e1 : a % 256 ^ (k + 1) % 256 = a % 256 := by rw [Nat.pow_succ, Nat.mul_comm, Nat.mod_mul_right_mod]
    have e2 : a % 256 ^ (k + 1) / 256 = a / 256 % 256 ^ k := by rw [Nat.pow_succ', Nat.mod_mul_right_div_self]
    have e3 : a / 256 / 256 ^ k = a / 256 ^ (k + 1) := by rw [Nat.div_div_eq_div_mul, Nat.pow_succ']
    rw [e1, e2, e3]
theorem layG_two (g : Int) (h1 : -1 ≤ g) (h2 : g ≤ 9223372036854775807) : S2.lowL (g % 4294967296).toNat 4 ++ S2.lowL (g / 4294967296 % 4294967296).toNat 4 = layG g := by
  unfold layG
  by_cases hn : g < 0
  · obtain rfl : g = -1 := by omega
    rw [if_pos hn]
    rfl
  · rw [if_neg hn]
    obtain ⟨m, rfl⟩ : ∃ m : Nat, g = (m : Int) := ⟨g.toNat, by omega⟩
    have := low_split m 4 4
    rw [show ((m : Int)).toNat = m from by omega, this]
    have e1 : ((m : Int) % 4294967296).toNat = m % 256 ^ 4 := by omega
    have e2 : ((m : Int) / 4294967296 % 4294967296).toNat = m / 256 ^ 4 := by omega
    rw [e1, e2]
theorem text_app (a b : List Nat) : textOf (a ++ b) = textOf a ++ textOf b := by
  apply ByteArray.ext
  unfold textOf
  simp [ByteArray.data_append]
set_option maxRecDepth 20000 in
set_option maxHeartbeats 1600000 in
theorem j_layGranule (g : Int) (h1 : -1 ≤ g) (h2 : g ≤ 9223372036854775807) (w : World) : Calls Tryd.prog 49 #[.int .i64 g] w fun e w' => e = .returned (.string (textOf (layG g))) ∧ Below w.heap.size w w' := by
  have HX : Hid (textOf (S2.lowL (g % 4294967296).toNat 4) ++ textOf (S2.lowL (g / 4294967296 % 4294967296).toNat 4) = textOf (layG g)) := by
    show _ = _
    rw [← text_app, layG_two g h1 h2]
  have a1 := and_low g
  have a2 := and_low (g / 4294967296)
  obtain ⟨lo, hlo⟩ : ∃ lo : Nat, g % 4294967296 = (lo : Int) := ⟨(g % 4294967296).toNat, by omega⟩
  obtain ⟨hi, hhi⟩ : ∃ hi : Nat, g / 4294967296 % 4294967296 = (hi : Int) := ⟨(g / 4294967296 % 4294967296).toNat, by omega⟩
  rw [hlo] at a1
  rw [hhi] at a2
  rw [hlo, hhi] at HX
  have k1 := fun w => j_le lo 4 (by omega) (by omega) (by omega) w
  have k2 := fun w => j_le hi 4 (by omega) (by omega) (by omega) w
  rw [Int.toNat_natCast, Int.toNat_natCast] at HX
  have hz : ¬ (9223372036854775807 < (textOf (S2.lowL lo 4)).size + (textOf (S2.lowL hi 4)).size) := by rw [S2.textOf_size, S2.textOf_size, S2.lowL_length, S2.lowL_length]; decide
  generalize textOf (S2.lowL lo 4) = X at *
  generalize textOf (S2.lowL hi 4) = Y at *
  have K1 := hid k1
  have K2 := hid k2
  clear hlo hhi k1 k2
  go_enter Tryd.func49, Tryd.ntmps49
  have k1 := K1.out w
  go_wp2_with fail
  refine k1.mono ?_
  rintro e w1 ⟨rfl, hb⟩
  have HB : Hid (Below w.heap.size w w1) := hb
  clear hb k1
  have k2 := K2.out w1
  go_wp2_with fail
  refine k2.mono ?_
  rintro e w2 ⟨rfl, hb⟩
  have HB2 : Hid (Below w.heap.size w w2) := below_on HB.out HB.out.size hb
  clear hb k2
  go_wp2_with fail
  go_ret
  exact ⟨by rw [← HX.out]; rfl, HB2.out⟩
/-- A number of 64 bits with its sign. -/
def sgI (n : Nat) : Int := if n < 9223372036854775808 then (n : Int) else (n : Int) - 18446744073709551616
theorem or_two (lo hi : Nat) (h1 : lo < 4294967296) (h2 : hi < 4294967296) : bits BinOp.or IntKind.i64 (wrap64 ((hi : Int) * 4294967296)) (lo : Int) = sgI (hi * 4294967296 + lo) := by
  show IntKind.wrap .i64 ((BitVec.ofInt 64 (wrap64 ((hi : Int) * 4294967296)) ||| BitVec.ofInt 64 (lo : Int)).toNat : Int) = _
  rw [BitVec.toNat_or, BitVec.toNat_ofInt, BitVec.toNat_ofInt]
  have e1 : ((wrap64 ((hi : Int) * 4294967296)) % ((2 ^ 64 : Nat) : Int)).toNat = hi * 4294967296 := by unfold wrap64; omega
  have e2 : ((lo : Int) % ((2 ^ 64 : Nat) : Int)).toNat = lo := by omega
  rw [e1, e2, nat_join 32 (hi * 4294967296) lo (by omega) (by omega), IntKind.wrap_i64]
  unfold sgI
  split <;> omega
theorem from_four (s : ByteArray) (h : s.size = 4) : S2.fromBe (bytesOf s).reverse = (leN (bytesOf s) : Nat) ∧ leN (bytesOf s) < 4294967296 := by
  have h1 := le_lt (bytesOf s) (bytesOf_lt s)
  rw [bytesOf_length, h] at h1
  refine ⟨?_, by omega⟩
  unfold S2.fromBe
  rw [if_neg ?_]
  · rfl
  · rintro (h2 | h2)
    · rw [List.length_reverse, bytesOf_length] at h2; omega
    · have : S2.val (bytesOf s).reverse = leN (bytesOf s) := rfl
      omega
theorem le_app (a b : List Nat) : leN (a ++ b) = leN a + 256 ^ a.length * leN b := by
  induction a with
  | nil => simp [leN, S2.val]
  | cons x t ih =>
    rw [List.cons_append, le_cons, le_cons, ih, List.length_cons, Nat.pow_succ]
    rw [Nat.add_mul, Nat.mul_right_comm]
    omega

set_option maxRecDepth 20000 in
set_option maxHeartbeats 1600000 in
theorem j_granuleIn (s : ByteArray) (h : s.size = 8) (w : World) : Calls Tryd.prog 58 #[.string s] w fun e w' => e = .returned (.int .i64 (sgI (leN (bytesOf s)))) ∧ Below w.heap.size w w' := by
  have s1 : ∀ w, (Instr.slice 9 (.string s) (some (.int .i64 4)) none none).run Tryd.prog w = .ok (.string (s.extract 4 s.size)) w := slice_from s 4 (by omega)
  have s2 : ∀ w, (Instr.slice 9 (.string s) none (some (.int .i64 4)) none).run Tryd.prog w = .ok (.string (s.extract 0 4)) w := slice_upto s 4 (by omega)
  have z1 : (s.extract 4 s.size).size = 4 := by rw [ext_len s 4 s.size (by omega) (by omega)]; omega
  have z2 : (s.extract 0 4).size = 4 := by rw [ext_len s 0 4 (by omega) (by omega)]
  have HV : Hid (leN (bytesOf s) = leN (bytesOf (s.extract 4 s.size)) * 4294967296 + leN (bytesOf (s.extract 0 4))) := by
    show _ = _
    have e : bytesOf s = bytesOf (s.extract 0 4) ++ bytesOf (s.extract 4 s.size) := by
      rw [bytesOf_ext, bytesOf_ext, ← seg_cat _ 0 4 s.size (by omega) (by omega), seg_all, List.take_of_length_le (by rw [bytesOf_length]; omega)]
    conv => lhs; rw [e]
    rw [le_app, bytesOf_length, z2]
    omega
  have KF : Hid (∀ x : ByteArray, Hid (x.size = 4) → ∀ w, Calls Tryd.prog 59 #[.string x] w fun e w' => e = .returned (.int .i64 (leN (bytesOf x) : Nat)) ∧ w' = w) := fun x hx w => by
    have k := S2.fromLe_spec x (by have := hx.out; omega) w
    rwa [(from_four x hx.out).1] at k
  have l1 := (from_four _ z1).2
  have l2 := (from_four _ z2).2
  have HO := hid (or_two _ _ l2 l1)
  rw [← HV.out] at HO
  have Z1 := hid z1
  have Z2 := hid z2
  clear HV z1 z2
  generalize sgI (leN (bytesOf s)) = R at *
  generalize s.extract 4 s.size = A at *
  generalize s.extract 0 4 = B at *
  go_enter Tryd.func58, Tryd.ntmps58
  go_upto_region 1 with fail
  go_quiet ((go_at_call 59; exact Calls.quiet_of_same (KF.out _ (by assumption) _)))
  go_wp2_with fail
  go_ret
  exact ⟨by rw [← HO.out]; rfl, below_drewN _ _⟩

end Go.Proofs.YtjkamannjgcmiaaDoor
