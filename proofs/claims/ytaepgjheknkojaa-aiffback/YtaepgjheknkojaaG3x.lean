/- Own text: a rate's bytes, turned of stage 2 (Bufs). a rate's bytes, turned of stage 2 (Rates). -/
import Derived.Test.YtaepgjheknkojaaRefbytes
import Derived.Laws.IdiomStrings
import Derived.ArgAppend
import Derived.Laws.MathBits
namespace Go.Proofs.Ytaepgjheknkojaa
open Go.RowKit
set_option linter.unusedSimpArgs false
set_option linter.unusedVariables false
/-- Block g, from B on, holds the bytes l, and room up to cap. -/
structure Buf (B : Nat) (w : World) (g cap : Nat) (l : List Nat) : Prop where
  base : B ≤ g
  lt : g < w.heap.size
  room : l.length ≤ cap
  there : ∀ j, j < cap → (w.cell? ⟨g, j, none⟩).isSome = true ∧ w.frozen? ⟨g, j, none⟩ = false
  cells : ∀ j, j < l.length → w.cell? ⟨g, j, none⟩ = some (.int .u8 ((l.getD j 0 : Nat) : Int))

theorem Buf.alloc {B : Nat} {w : World} {g cap : Nat} {l : List Nat} (h : Buf B w g cap l) (o : Obj) : Buf B (w.alloc o) g cap l := by
  have hb : (w.alloc o).heap[g]? = w.heap[g]? := Below.heap_alloc w o g h.lt
  refine ⟨h.base, by have := h.lt; simp; omega, h.room, fun j hj => ?_, fun j hj => ?_⟩
  · rw [World.cell?_of_block (a := ⟨g, j, none⟩) hb, World.frozen?_of_block (a := ⟨g, j, none⟩) hb]
    exact h.there j hj
  · rw [World.cell?_of_block (a := ⟨g, j, none⟩) hb]
    exact h.cells j hj

theorem getD_append_lt (l : List Nat) (b j : Nat) (h : j < l.length) : (l ++ [b]).getD j 0 = l.getD j 0 := by
  rw [List.getD_eq_getElem?_getD, List.getElem?_append_left h, List.getD_eq_getElem?_getD]

theorem getD_append_eq (l : List Nat) (b : Nat) : (l ++ [b]).getD l.length 0 = b := by
  rw [List.getD_eq_getElem?_getD, List.getElem?_append_right (Nat.le_refl _)]
  simp

theorem run_buf_append {B : Nat} {w : World} {g cap : Nat} {l : List Nat} (h : Buf B w g cap l) (hB : B ≤ w.heap.size) (ty : TypeId) (a : Addr) (c b : Nat) (ha : w.cell? (a.add 0) = some (.int .u8 (b : Int))) (hl : l.length < 1000000) :
    ∃ g' cap' w', (Builtin.append_ #[81, 81] ty #[.slice (some ⟨g, 0, none⟩) l.length cap, .slice (some a) 1 c]).run Try.prog w = .ok (.slice (some ⟨g', 0, none⟩) (l.length + 1) cap') w' ∧ Buf B w' g' cap' (l ++ [b]) ∧ Below B w w' := by
  obtain ⟨i, hi, hz0, hz1, hz2⟩ := info_parts Try.info5
  have hnews : ∀ j u, [Value.int .u8 (b : Int)][j]? = some u → w.cell? (a.add j) = some u := by
    intro j u hj
    cases j with
    | zero => simp at hj; rw [← hj]; exact ha
    | succ j => simp at hj
  have hone : ∀ u ∈ [Value.int .u8 (b : Int)], u.oneCell' = true := by
    intro u hu
    simp at hu
    subst hu
    rfl
  by_cases hr : l.length + 1 ≤ cap
  · have hrun := run_append_room_cells (P := Try.prog) w 81 ty 5 i Try.underlying81 hi g 0 l.length cap a 1 c [.int .u8 (b : Int)] (by simp [hz1]) hnews hone hr
      (fun j hj => by
        obtain rfl : j = 0 := by simpa using hj
        simpa [hz1] using (h.there l.length (by omega)).1)
      (fun j hj => by
        obtain rfl : j = 0 := by simpa using hj
        simpa [hz1] using (h.there l.length (by omega)).2)
    rw [hz1] at hrun
    simp only [Nat.zero_add, Nat.mul_one, World.setCells] at hrun
    refine ⟨g, cap, _, hrun, ⟨h.base, by have := h.lt; simpa [World.setCell] using this, by simpa using hr, fun j hj => ?_, fun j hj => ?_⟩, ⟨rfl, rfl, rfl, by simp [World.setCell], fun k hk => Below.heap_setCell w _ _ k (by have := h.base; simp; omega)⟩⟩
    · rw [World.frozen?_setCell]
      refine ⟨?_, (h.there j hj).2⟩
      by_cases e : j = l.length
      · subst e
        obtain ⟨u, hu⟩ := Option.isSome_iff_exists.1 (h.there _ hj).1
        rw [World.cell?_setCell_same _ _ _ hu]
        rfl
      · rw [World.cell?_setCell_other _ _ _ _ (by simp <;> omega)]
        exact (h.there j hj).1
    · by_cases e : j = l.length
      · subst e
        obtain ⟨u, hu⟩ := Option.isSome_iff_exists.1 (h.there l.length (by omega)).1
        rw [World.cell?_setCell_same _ _ _ hu, getD_append_eq]
      · have hj' : j < l.length := by simp at hj; omega
        rw [World.cell?_setCell_other _ _ _ _ (by simp <;> omega), getD_append_lt l b j hj']
        exact h.cells j hj'
  · obtain ⟨v', w', hrun, r1, r2⟩ := run_append_arg_grows (P := Try.prog) w 81 ty 5 i (.int .u8 0) 1 1 Try.underlying81 hi hz0 hz1 hz2 rfl (by decide) ⟨g, 0, none⟩ l.length cap (l.map fun (x : Nat) => Value.int .u8 (x : Int)) (by simp)
      (fun j u hj => by
        have hjl : j < l.length := by
          have := (List.getElem?_eq_some_iff.1 hj).1
          simpa using this
        rw [Addr.add_lit, Nat.zero_add, h.cells j hjl]
        simp [List.getElem?_eq_getElem hjl] at hj
        rw [← hj, List.getD_eq_getElem?_getD, List.getElem?_eq_getElem hjl]
        rfl) a 1 c [.int .u8 (b : Int)] (by simp) hnews (by omega) (by simp [maxLen]; omega) (by omega)
    rcases r1.2 with ⟨_, hn⟩ | ⟨g', cap', cur, hv, hg', hblk, hnc, hcm, hcs, htake⟩
    · omega
    · subst hv
      simp only [Nat.mul_one] at hcs htake
      refine ⟨g', cap', w', hrun, ⟨by omega, lt_of_block hblk, by simpa using hnc, fun j hj => ?_, fun j hj => ?_⟩, ⟨r2.os, r2.tape, r2.output, r2.size, fun k hk => r2.block k (by omega) (by simp)⟩⟩
      · constructor
        · simp [World.cell?, hblk, hcs, hj]
        · simp [World.frozen?, hblk]
      · have hj2 : j < l.length + 1 := by simpa using hj
        have e1 : cur[j]? = (l.map (fun (x : Nat) => Value.int .u8 (x : Int)) ++ [Value.int .u8 (b : Int)])[j]? := by
          rw [← htake, List.getElem?_take_of_lt hj2, Array.getElem?_toList]
        have e2 : w'.cell? ⟨g', j, none⟩ = cur[j]? := by simp [World.cell?, hblk]
        rw [e2, e1]
        by_cases e : j = l.length
        · subst e
          rw [getD_append_eq, List.getElem?_append_right (by simp)]
          simp
        · have hj' : j < l.length := by omega
          rw [getD_append_lt l b j hj', List.getElem?_append_left (by simpa using hj'), List.getElem?_map, List.getElem?_eq_getElem hj', List.getD_eq_getElem?_getD, List.getElem?_eq_getElem hj']
          rfl

theorem wpList_buf {w : World} {ops : Array Oper} {rest : List Oper} {o : Oper} {a : Act} {Q : Exit → Act → World → Prop} (hgd : o.guard = none) (s x : Operand)
    (ho : o.op = .call { callee := .builtin .append, args := #[s, x], argTypes := #[81, 81] })
    {B g cap : Nat} {l : List Nat} (n : Nat) (hn : n = l.length) (hs : a.eval s = .slice (some ⟨g, 0, none⟩) n cap) (h : Buf B w g cap l) (hB : B ≤ w.heap.size) (ad : Addr) (c b : Nat) (hx : a.eval x = .slice (some ad) 1 c)
    (ha : w.cell? (ad.add 0) = some (.int .u8 (b : Int))) (hl : l.length < 1000000)
    (hk : ∀ g' cap' w', Buf B w' g' cap' (l ++ [b]) → Below B w w' → wpList Try.prog ops Q rest (a.put o.dst (.slice (some ⟨g', 0, none⟩) (n + 1) cap')) w') : wpList Try.prog ops Q (o :: rest) a w := by
  subst hn
  refine wpList_plain hgd fun K hK => ?_
  obtain ⟨g', cap', w', hrun, r1, r2⟩ := run_buf_append h hB o.type ad c b ha hl
  unfold Oper.wp
  simp [execOp, ho, resolve, invoke, builtin, hs, hx, hrun, Result.andThen]
  exact hK _ _ (hk g' cap' w' r1 r2)

/-- The bytes of a text. -/
theorem run_buf_make (w : World) (l : List Nat) (hl : ∀ b ∈ l, b < 256) :
    ∃ cap w', (convert 9 81 (.string (textOf l))).run Try.prog w = .ok (.slice (some ⟨w.heap.size, 0, none⟩) l.length cap) w' ∧ Buf w.heap.size w' w.heap.size cap l ∧ Below w.heap.size w w' := by
  have hrun := run_bytes_of_string (P := Try.prog) w 9 81 5 (textOf l) Try.underlying9 Try.underlying81 Try.underlying5
  rw [textOf_size] at hrun
  have hge := grownCap_ge w l.length 0 5
  generalize grownCap w l.length 0 5 = cap at *
  have hsz : (bytesRow (textOf l) cap).size = cap := by
    have : (textOf l).data.size = l.length := textOf_size l
    simp [bytesRow, this, textOf_size]
    omega
  rw [hsz] at hrun
  refine ⟨cap, _, hrun, ⟨Nat.le_refl _, by simp, hge, fun j hj => ?_, fun j hj => ?_⟩, ⟨rfl, rfl, rfl, by simp, fun k hk => Below.heap_alloc w.drew _ k hk⟩⟩
  · have hf := World.frozen?_alloc_mark w.drew (bytesRow (textOf l) cap) 5 cap (cap + 1) j
    have hc := World.cell?_alloc_mark w.drew (bytesRow (textOf l) cap) 5 (cap, cap + 1) j
    constructor
    · have : ((w.drew.alloc (.cells (bytesRow (textOf l) cap) 5 (cap, cap + 1))).cell? ⟨w.heap.size, j, none⟩) = (bytesRow (textOf l) cap)[j]? := hc
      rw [this, Array.getElem?_eq_getElem (by omega)]
      rfl
    · have : ((w.drew.alloc (.cells (bytesRow (textOf l) cap) 5 (cap, cap + 1))).frozen? ⟨w.heap.size, j, none⟩) = (decide (cap ≤ j) && decide (j < cap + 1)) := hf
      rw [this]
      simp
      omega
  · have hc := World.cell?_alloc_mark w.drew (bytesRow (textOf l) cap) 5 (cap, cap + 1) j
    have h1 : ((w.drew.alloc (.cells (bytesRow (textOf l) cap) 5 (cap, cap + 1))).cell? ⟨w.heap.size, j, none⟩) = (bytesRow (textOf l) cap)[j]? := hc
    have hd : j < (textOf l).data.size := by
      have : (textOf l).data.size = l.length := textOf_size l
      omega
    rw [h1, bytesRow_at (textOf l) cap j hd]
    have hb := bytesOf_get (textOf l) j (by rw [textOf_size]; exact hj)
    have hbl := bytesOf_textOf l hl
    have h2 : ((textOf l).data[j]'hd).toNat = l.getD j 0 := by
      have e : ((textOf l).data[j]'hd).toNat = ((textOf l)[j]'(by rw [textOf_size]; exact hj)).toNat := rfl
      rw [e, ← hb, List.getD_eq_getElem?_getD, List.getElem?_eq_getElem hj]
      simp [hbl]
    rw [h2]

/-- .. and back. -/
theorem run_buf_text {B : Nat} {w : World} {g cap : Nat} {l : List Nat} (h : Buf B w g cap l) (n : Nat) (hn : n = l.length) : (convert 81 9 (.slice (some ⟨g, 0, none⟩) n cap)).run Try.prog w = .ok (.string (textOf l)) w := by
  subst hn
  rw [textOf_eq]
  refine run_convert_bytes_arg w 81 5 Try.underlying81 Try.underlying5 g 0 l.length cap _ (by simp) (fun i hi => ?_) 9 Try.underlying9
  rw [Nat.zero_add, h.cells i hi]
  simp [List.getD, hi]

end Go.Proofs.Ytaepgjheknkojaa

namespace Go.Proofs.Ytaepgjheknkojaa
open Go.RowKit
set_option linter.unusedSimpArgs false
set_option linter.unusedVariables false
/-- The exponent of a number. -/
def lg (n : Nat) : Nat := n.log2

theorem lg_spec (n : Nat) (h : 1 ≤ n) : 2 ^ lg n ≤ n ∧ n < 2 ^ (lg n + 1) := ⟨Nat.log2_self_le (by omega), Nat.lt_log2_self⟩

theorem lg_le (n : Nat) (h : 1 ≤ n) (h2 : n ≤ 655350) : lg n ≤ 19 := by
  have := (Nat.log2_lt (n := n) (k := 20) (by omega)).2 (by omega)
  unfold lg
  omega

theorem lg_unique (n e : Nat) (h1 : 2 ^ e ≤ n) (h2 : n < 2 ^ (e + 1)) : lg n = e := by
  have h0 : n ≠ 0 := by have := Nat.two_pow_pos e; omega
  exact (Nat.log2_eq_iff h0).2 ⟨h1, h2⟩

theorem bitLen_lg (n : Nat) (h : 1 ≤ n) : bitLen n = lg n + 1 := by unfold bitLen lg; rw [if_neg (by omega)]

/-- The number drawn up to the top of its eight bytes. -/
def drawn (n : Nat) : Nat := n * 2 ^ (63 - lg n)

theorem drawn_lt (n : Nat) (h : 1 ≤ n) (h2 : n ≤ 655350) : drawn n < 18446744073709551616 := by
  have hl := lg_le n h h2
  have hs := (lg_spec n h).2
  have h3 : n * 2 ^ (63 - lg n) < 2 ^ (lg n + 1) * 2 ^ (63 - lg n) := Nat.mul_lt_mul_of_pos_right hs (Nat.two_pow_pos _)
  rw [← Nat.pow_add, show lg n + 1 + (63 - lg n) = 64 from by omega] at h3
  exact h3

/-- The bytes of a rate. -/
def rateL (n : Nat) : List Nat := highL (16383 + lg n) 2 ++ highL (drawn n) 8

theorem rateL_lt (n : Nat) : ∀ b ∈ rateL n, b < 256 := by
  intro b hb
  rcases List.mem_append.1 hb with h | h
  · exact highL_lt _ _ b h
  · exact highL_lt _ _ b h

theorem rateL_length (n : Nat) : (rateL n).length = 10 := by unfold rateL; rw [List.length_append, highL_length, highL_length]

def ratB (n : Int) : Bool := decide (1 ≤ n ∧ n ≤ 655350)

def ratT (n : Int) : ByteArray := if ratB n then textOf (rateL n.toNat) else ⟨#[]⟩

def ratE (n : Int) : Int := if ratB n then 0 else 11

theorem ratB_nat {n : Int} (h : ratB n = true) : ∃ m : Nat, n = m ∧ 1 ≤ m ∧ m ≤ 655350 := by
  unfold ratB at h
  have h := of_decide_eq_true h
  exact ⟨n.toNat, by omega, by omega, by omega⟩

theorem ratB_of (m : Nat) (h1 : 1 ≤ m) (h : m ≤ 655350) : ratB (m : Int) = true := by unfold ratB; exact decide_eq_true (by omega)

theorem ratB_no {n : Int} (h : ratB n = false) : n < 1 ∨ 655350 < n := by
  by_cases a : n < 1
  · exact .inl a
  · by_cases b : 655350 < n
    · exact .inr b
    · have : ratB n = true := by unfold ratB; exact decide_eq_true (by omega)
      rw [this] at h
      cases h

theorem ratT_nat (m : Nat) (h1 : 1 ≤ m) (h : m ≤ 655350) : ratT (m : Int) = textOf (rateL m) := by unfold ratT; rw [ratB_of m h1 h]; simp

theorem ratE_nat (m : Nat) (h1 : 1 ≤ m) (h : m ≤ 655350) : ratE (m : Int) = 0 := by unfold ratE; rw [ratB_of m h1 h]; simp

theorem ratT_no (n : Int) (h : ratB n = false) : ratT n = ⟨#[]⟩ := by unfold ratT; rw [h]; rfl

theorem ratE_no (n : Int) (h : ratB n = false) : ratE n = 11 := by unfold ratE; rw [h]; rfl

theorem ret_wraps2 {T : Nat} (c x y : Nat) (h : T = y) (h8 : y ≤ 8) (hc : c ≤ 64) (hx : x = c + y) : wrap64 ((c : Int) + wrap64 (T : Int)) = (x : Int) := by
  subst h
  unfold wrap64
  omega

theorem ret_wraps {T : Nat} (x : Nat) (h : T = x) (h8 : x ≤ 64) : wrap64 (wrap64 (T : Int)) = (x : Int) := by
  subst h
  unfold wrap64
  omega

set_option maxRecDepth 100000 in
theorem len64_spec (x : Nat) (hx : x < 16777216) (w : World) : Calls Try.prog 98 #[.int .u64 (x : Int)] w fun e w' => e = .returned (.int .i64 (bitLen x : Int)) ∧ w' = w := by
  have hd1 : decide ((4294967296 : Int) ≤ (x : Int)) = false := by simp; omega
  by_cases h1 : x < 256
  · have hd2 : decide ((65536 : Int) ≤ (x : Int)) = false := by simp; omega
    have hd3 : decide ((256 : Int) ≤ (x : Int)) = false := by simp; omega
    go_enter Try.func98, Try.ntmps98
    generalize hT : ByteArray.mk (List.toArray (List.append _ _)) = T
    have hsz : T.size = 256 := by rw [← hT]; rfl
    have hget : ∀ i (h : i < T.size), (T[i]'h).toNat = bitLen i := by subst hT; exact len8tab_get
    have HG : Hid _ := hget
    clear hT hget
    go_wp2
    go_ret
    exact ⟨ret_int (ret_wraps _ (HG.out x (by omega)) (by have := bitLen_le8 x h1; omega)), rfl⟩
  · by_cases h2 : x < 65536
    · have hd2 : decide ((65536 : Int) ≤ (x : Int)) = false := by simp; omega
      have hd3 : decide ((256 : Int) ≤ (x : Int)) = true := by simp; omega
      have hs := bitLen_shift x 8 (by omega)
      obtain ⟨y, hy⟩ : ∃ y, y = x / 2 ^ 8 := ⟨_, rfl⟩
      rw [← hy] at hs
      have hq : (x : Int) / 256 = (y : Int) := by omega
      have hy2 : y < 256 := by omega
      have HS : Hid _ := hs
      clear hs hy
      go_enter Try.func98, Try.ntmps98
      generalize hT : ByteArray.mk (List.toArray (List.append _ _)) = T
      have hsz : T.size = 256 := by rw [← hT]; rfl
      have hget : ∀ i (h : i < T.size), (T[i]'h).toNat = bitLen i := by subst hT; exact len8tab_get
      have HG : Hid _ := hget
      clear hT hget
      go_wp2
      go_ret
      exact ⟨ret_int (ret_wraps2 8 _ _ (HG.out y (by omega)) (bitLen_le8 y hy2) (by omega) HS.out), rfl⟩
    · have hd2 : decide ((65536 : Int) ≤ (x : Int)) = true := by simp; omega
      have hs := bitLen_shift x 16 (by omega)
      obtain ⟨y, hy⟩ : ∃ y, y = x / 2 ^ 16 := ⟨_, rfl⟩
      rw [← hy] at hs
      have hq : (x : Int) / 65536 = (y : Int) := by omega
      have hy2 : y < 256 := by omega
      have hd3 : decide ((256 : Int) ≤ (y : Int)) = false := by simp; omega
      have HS : Hid _ := hs
      clear hs hy
      go_enter Try.func98, Try.ntmps98
      generalize hT : ByteArray.mk (List.toArray (List.append _ _)) = T
      have hsz : T.size = 256 := by rw [← hT]; rfl
      have hget : ∀ i (h : i < T.size), (T[i]'h).toNat = bitLen i := by subst hT; exact len8tab_get
      have HG : Hid _ := hget
      clear hT hget
      go_wp2
      go_ret
      exact ⟨ret_int (ret_wraps2 16 _ _ (HG.out y (by omega)) (bitLen_le8 y hy2) (by omega) HS.out), rfl⟩

theorem bitsLen_spec (n : Nat) (h1 : 1 ≤ n) (h : n ≤ 655350) (w : World) : Calls Try.prog 76 #[.int .u64 (n : Int)] w fun e w' => e = .returned (.int .i64 ((lg n + 1 : Nat) : Int)) ∧ w' = w := by
  have hs := len64_spec n (by omega) w
  rw [bitLen_lg n h1] at hs
  go_enter Try.func76, Try.ntmps76
  go_wp2_with fail
  refine hs.mono ?_
  rintro e w1 ⟨rfl, rfl⟩
  go_wp2
  go_ret
  exact ⟨rfl, rfl⟩

theorem drawn_wrap (n : Nat) (h1 : 1 ≤ n) (h : n ≤ 655350) : IntKind.u64.wrap ((n : Int) * 2 ^ (63 - lg n)) = (drawn n : Int) := by
  have hd := drawn_lt n h1 h
  unfold drawn at hd ⊢
  have e : (n : Int) * 2 ^ (63 - lg n) = ((n * 2 ^ (63 - lg n) : Nat) : Int) := by simp
  rw [e]
  generalize n * 2 ^ (63 - lg n) = d at *
  rw [IntKind.wrap_u64]
  omega

set_option maxRecDepth 20000 in
set_option maxHeartbeats 800000 in
theorem rate_ok (n : Nat) (h1 : 1 ≤ n) (h : n ≤ 655350) (w : World) :
    Calls Try.prog 51 #[.int .i64 (n : Int)] w fun e w' => e = .returned (.tuple #[.string (ratT n), .int .i64 (ratE n)]) ∧ Below w.heap.size w w' := by
  rw [ratT_nat n h1 h, ratE_nat n h1 h]
  unfold rateL
  rw [← textOf_append]
  have hl := lg_le n h1 h
  have hls := bitsLen_spec n h1 h w
  have hdl := drawn_lt n h1 h
  have hdw := drawn_wrap n h1 h
  generalize hg : lg n = g at *
  generalize hd : drawn n = d at *
  have hs1 := textOf_size (highL (16383 + g) 2)
  have hs2 := textOf_size (highL d 8)
  rw [highL_length] at hs1 hs2
  have hh1 : ∀ w, Calls Try.prog 77 #[.int .u64 (16383 + (g : Int)), .int .i64 2] w fun e w' => e = .returned (.string (textOf (highL (16383 + g) 2))) ∧ Below w.heap.size w w' := fun w => by
    have := highFirst_spec (16383 + g) 2 (by omega) (by omega) w
    rw [show ((16383 + g : Nat) : Int) = 16383 + (g : Int) from by omega] at this
    exact this
  have hh2 : ∀ w, Calls Try.prog 77 #[.int .u64 (d : Int), .int .i64 8] w fun e w' => e = .returned (.string (textOf (highL d 8))) ∧ Below w.heap.size w w' := fun w => highFirst_spec d 8 hdl (by omega) w
  generalize textOf (highL (16383 + g) 2) = t1 at *
  generalize textOf (highL d 8) = t2 at *
  clear hg hd
  go_enter Try.func51, Try.ntmps51
  go_wp2_with fail
  refine hls.mono ?_
  rintro e w1 ⟨rfl, rfl⟩
  go_wp2_with fail
  refine (hh1 _).mono ?_
  rintro e w2 ⟨rfl, hB2⟩
  go_wp2_with fail
  refine (hh2 _).mono ?_
  rintro e w3 ⟨rfl, hB3⟩
  go_wp2
  go_ret2
  exact ⟨rfl, hB2.trans (hB3.mono hB2.size)⟩

theorem rate_spec (n : Int) (w : World) :
    Calls Try.prog 51 #[.int .i64 n] w fun e w' => e = .returned (.tuple #[.string (ratT n), .int .i64 (ratE n)]) ∧ Below w.heap.size w w' := by
  by_cases hb : ratB n = true
  · obtain ⟨m, rfl, h1, hm⟩ := ratB_nat hb
    exact rate_ok m h1 hm w
  · have hf : ratB n = false := by simpa using hb
    rw [ratT_no n hf, ratE_no n hf]
    rcases ratB_no hf with hn | hn
    · clear hb hf
      go_enter Try.func51, Try.ntmps51
      go_wp2
      go_ret2
      exact ⟨rfl, Below.refl _ _⟩
    · clear hb hf
      go_enter Try.func51, Try.ntmps51
      go_wp2
      go_ret2
      exact ⟨rfl, Below.refl _ _⟩

theorem lg_test (n e : Nat) (h1 : 1 ≤ n) (h : n ≤ 655350) (he : e ≤ lg n) : decide (wrap64 (2 ^ (e + 1)) ≤ (n : Int)) = decide (e < lg n) := by
  have hl := lg_le n h1 h
  have hs := lg_spec n h1
  have hp : 2 ^ (e + 1) ≤ 2 ^ 20 := Nat.pow_le_pow_right (by decide) (by omega)
  have ew : wrap64 (2 ^ (e + 1)) = ((2 ^ (e + 1) : Nat) : Int) := by
    have e1 : ((2 : Int) ^ (e + 1)) = ((2 ^ (e + 1) : Nat) : Int) := by simp
    rw [e1]
    generalize 2 ^ (e + 1) = p at *
    unfold wrap64
    omega
  rw [ew, Bool.eq_iff_iff]
  simp only [decide_eq_true_eq]
  have key : 2 ^ (e + 1) ≤ n ↔ e < lg n := by
    constructor
    · intro hle
      by_cases h : e < lg n
      · exact h
      · have : e = lg n := by omega
        rw [this] at hle
        omega
    · intro hlt
      have : 2 ^ (e + 1) ≤ 2 ^ lg n := Nat.pow_le_pow_right (by decide) (by omega)
      omega
  omega

theorem high_take (d t : Nat) (h : t < 8) : (highL d 8).take (t + 1) = (highL d 8).take t ++ [d / 256 ^ (7 - t) % 256] := by
  rw [List.take_succ_eq_append_getElem (by rw [highL_length]; exact h)]
  congr 2
  simp [highL]

theorem cell_new (w : World) (v : Value) (t : TypeId) : (w.alloc (.cells #[v] t)).cell? ((Addr.mk w.heap.size 0 none).add 0) = some v := by
  have h : (Addr.mk w.heap.size 0 none).add 0 = ⟨w.heap.size, 0, none⟩ := by simp [Addr.add]
  rw [h]
  simp only [World.cell?, heap_alloc_new]
  rfl

end Go.Proofs.Ytaepgjheknkojaa
