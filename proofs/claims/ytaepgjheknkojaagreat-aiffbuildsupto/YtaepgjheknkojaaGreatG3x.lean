/- Own text: a rate's bytes, turned of stage 2 (Bufs). a rate's bytes, turned of stage 2 (Rates). -/
import Derived.Test.YtaepgjheknkojaaGreatRefbytes
import Derived.Laws.IdiomStrings
import Derived.ArgAppend
import Derived.Laws.MathBits
namespace Go.Proofs.YtaepgjheknkojaaGreat
open Go.RowKit
set_option linter.unusedSimpArgs false
set_option linter.unusedVariables false
/-- Block g, from B on, holds the bytes l, and room up to cap. -/
structure Buf (B : Nat) (w : World) (g cap : Nat) (l : List Nat) : Prop where
  base : B ≤ g
  lt : g < w.heap.size
  room : l.length ≤ cap
  there : ∀ j, j < cap → (w.cell? ⟨g, j, none⟩).isSome = true ∧ w.frozen? ⟨g, j, none⟩ = false
  cells : ∀ j, j < l.length → w.cell? ⟨g, j, none⟩ = some (.int .u8 ((l.getD j 0 : Nat) : Int))

theorem Buf.alloc {B : Nat} {w : World} {g cap : Nat} {l : List Nat} (h : Buf B w g cap l) (o : Obj) : Buf B (w.alloc o) g cap l := by
  have hb : (w.alloc o).heap[g]? = w.heap[g]? := Below.heap_alloc w o g h.lt
  refine ⟨h.base, by have := h.lt; simp; omega, h.room, fun j hj => ?_, fun j hj => ?_⟩
  · rw [World.cell?_of_block (a := ⟨g, j, none⟩) hb, World.frozen?_of_block (a := ⟨g, j, none⟩) hb]
    exact h.there j hj
  · rw [World.cell?_of_block (a := ⟨g, j, none⟩) hb]
    exact h.cells j hj

theorem getD_append_lt (l : List Nat) (b j : Nat) (h : j < l.length) : (l ++ [b]).getD j 0 = l.getD j 0 := by
  rw [List.getD_eq_getElem?_getD, List.getElem?_append_left h, List.getD_eq_getElem?_getD]

theorem getD_append_eq (l : List Nat) (b : Nat) : (l ++ [b]).getD l.length 0 = b := by
  rw [List.getD_eq_getElem?_getD, List.getElem?_append_right (Nat.le_refl _)]
  simp

theorem run_buf_append {B : Nat} {w : World} {g cap : Nat} {l : List Nat} (h : Buf B w g cap l) (hB : B ≤ w.heap.size) (ty : TypeId) (a : Addr) (c b : Nat) (ha : w.cell? (a.add 0) = some (.int .u8 (b : Int))) (hl : l.length < 1000000) :
    ∃ g' cap' w', (Builtin.append_ #[107, 107] ty #[.slice (some ⟨g, 0, none⟩) l.length cap, .slice (some a) 1 c]).run Tryz.prog w = .ok (.slice (some ⟨g', 0, none⟩) (l.length + 1) cap') w' ∧ Buf B w' g' cap' (l ++ [b]) ∧ Below B w w' := by
  obtain ⟨i, hi, hz0, hz1, hz2⟩ := info_parts Tryz.info5
  have hnews : ∀ j u, [Value.int .u8 (b : Int)][j]? = some u → w.cell? (a.add j) = some u := by
    intro j u hj
    cases j with
    | zero => simp at hj; rw [← hj]; exact ha
    | succ j => simp at hj
  have hone : ∀ u ∈ [Value.int .u8 (b : Int)], u.oneCell' = true := by
    intro u hu
    simp at hu
    subst hu
    rfl
  by_cases hr : l.length + 1 ≤ cap
  · have hrun := run_append_room_cells (P := Tryz.prog) w 107 ty 5 i Tryz.underlying107 hi g 0 l.length cap a 1 c [.int .u8 (b : Int)] (by simp [hz1]) hnews hone hr
      (fun j hj => by
        obtain rfl : j = 0 := by simpa using hj
        simpa [hz1] using (h.there l.length (by omega)).1)
      (fun j hj => by
        obtain rfl : j = 0 := by simpa using hj
        simpa [hz1] using (h.there l.length (by omega)).2)
    rw [hz1] at hrun
    simp only [Nat.zero_add, Nat.mul_one, World.setCells] at hrun
    refine ⟨g, cap, _, hrun, ⟨h.base, by have := h.lt; simpa [World.setCell] using this, by simpa using hr, fun j hj => ?_, fun j hj => ?_⟩, ⟨rfl, rfl, rfl, by simp [World.setCell], fun k hk => Below.heap_setCell w _ _ k (by have := h.base; simp; omega)⟩⟩
    · rw [World.frozen?_setCell]
      refine ⟨?_, (h.there j hj).2⟩
      by_cases e : j = l.length
      · subst e
        obtain ⟨u, hu⟩ := Option.isSome_iff_exists.1 (h.there _ hj).1
        rw [World.cell?_setCell_same _ _ _ hu]
        rfl
      · rw [World.cell?_setCell_other _ _ _ _ (by simp <;> omega)]
        exact (h.there j hj).1
    · by_cases e : j = l.length
      · subst e
        obtain ⟨u, hu⟩ := Option.isSome_iff_exists.1 (h.there l.length (by omega)).1
        rw [World.cell?_setCell_same _ _ _ hu, getD_append_eq]
      · have hj' : j < l.length := by simp at hj; omega
        rw [World.cell?_setCell_other _ _ _ _ (by simp <;> omega), getD_append_lt l b j hj']
        exact h.cells j hj'
  · obtain ⟨v', w', hrun, r1, r2⟩ := run_append_arg_grows (P := Tryz.prog) w 107 ty 5 i (.int .u8 0) 1 1 Tryz.underlying107 hi hz0 hz1 hz2 rfl (by decide) ⟨g, 0, none⟩ l.length cap (l.map fun (x : Nat) => Value.int .u8 (x : Int)) (by simp)
      (fun j u hj => by
        have hjl : j < l.length := by
          have := (List.getElem?_eq_some_iff.1 hj).1
          simpa using this
        rw [Addr.add_lit, Nat.zero_add, h.cells j hjl]
        simp [List.getElem?_eq_getElem hjl] at hj
        rw [← hj, List.getD_eq_getElem?_getD, List.getElem?_eq_getElem hjl]
        rfl) a 1 c [.int .u8 (b : Int)] (by simp) hnews (by omega) (by simp [maxLen]; omega) (by omega)
    rcases r1.2 with ⟨_, hn⟩ | ⟨g', cap', cur, hv, hg', hblk, hnc, hcm, hcs, htake⟩
    · omega
    · subst hv
      simp only [Nat.mul_one] at hcs htake
      refine ⟨g', cap', w', hrun, ⟨by omega, lt_of_block hblk, by simpa using hnc, fun j hj => ?_, fun j hj => ?_⟩, ⟨r2.os, r2.tape, r2.output, r2.size, fun k hk => r2.block k (by omega) (by simp)⟩⟩
      · constructor
        · simp [World.cell?, hblk, hcs, hj]
        · simp [World.frozen?, hblk]
      · have hj2 : j < l.length + 1 := by simpa using hj
        have e1 : cur[j]? = (l.map (fun (x : Nat) => Value.int .u8 (x : Int)) ++ [Value.int .u8 (b : Int)])[j]? := by
          rw [← htake, List.getElem?_take_of_lt hj2, Array.getElem?_toList]
        have e2 : w'.cell? ⟨g', j, none⟩ = cur[j]? := by simp [World.cell?, hblk]
        rw [e2, e1]
        by_cases e : j = l.length
        · subst e
          rw [getD_append_eq, List.getElem?_append_right (by simp)]
          simp
        · have hj' : j < l.length := by omega
          rw [getD_append_lt l b j hj', List.getElem?_append_left (by simpa using hj'), List.getElem?_map, List.getElem?_eq_getElem hj', List.getD_eq_getElem?_getD, List.getElem?_eq_getElem hj']
          rfl

theorem wpList_buf {w : World} {ops : Array Oper} {rest : List Oper} {o : Oper} {a : Act} {Q : Exit → Act → World → Prop} (hgd : o.guard = none) (s x : Operand)
    (ho : o.op = .call { callee := .builtin .append, args := #[s, x], argTypes := #[107, 107] })
    {B g cap : Nat} {l : List Nat} (n : Nat) (hn : n = l.length) (hs : a.eval s = .slice (some ⟨g, 0, none⟩) n cap) (h : Buf B w g cap l) (hB : B ≤ w.heap.size) (ad : Addr) (c b : Nat) (hx : a.eval x = .slice (some ad) 1 c)
    (ha : w.cell? (ad.add 0) = some (.int .u8 (b : Int))) (hl : l.length < 1000000)
    (hk : ∀ g' cap' w', Buf B w' g' cap' (l ++ [b]) → Below B w w' → wpList Tryz.prog ops Q rest (a.put o.dst (.slice (some ⟨g', 0, none⟩) (n + 1) cap')) w') : wpList Tryz.prog ops Q (o :: rest) a w := by
  subst hn
  refine wpList_plain hgd fun K hK => ?_
  obtain ⟨g', cap', w', hrun, r1, r2⟩ := run_buf_append h hB o.type ad c b ha hl
  unfold Oper.wp
  simp [execOp, ho, resolve, invoke, builtin, hs, hx, hrun, Result.andThen]
  exact hK _ _ (hk g' cap' w' r1 r2)

/-- The bytes of a text. -/
theorem run_buf_make (w : World) (l : List Nat) (hl : ∀ b ∈ l, b < 256) :
    ∃ cap w', (convert 9 107 (.string (textOf l))).run Tryz.prog w = .ok (.slice (some ⟨w.heap.size, 0, none⟩) l.length cap) w' ∧ Buf w.heap.size w' w.heap.size cap l ∧ Below w.heap.size w w' := by
  have hrun := run_bytes_of_string (P := Tryz.prog) w 9 107 5 (textOf l) Tryz.underlying9 Tryz.underlying107 Tryz.underlying5
  rw [textOf_size] at hrun
  have hge := grownCap_ge w l.length 0 5
  generalize grownCap w l.length 0 5 = cap at *
  have hsz : (bytesRow (textOf l) cap).size = cap := by
    have : (textOf l).data.size = l.length := textOf_size l
    simp [bytesRow, this, textOf_size]
    omega
  rw [hsz] at hrun
  refine ⟨cap, _, hrun, ⟨Nat.le_refl _, by simp, hge, fun j hj => ?_, fun j hj => ?_⟩, ⟨rfl, rfl, rfl, by simp, fun k hk => Below.heap_alloc w.drew _ k hk⟩⟩
  · have hf := World.frozen?_alloc_mark w.drew (bytesRow (textOf l) cap) 5 cap (cap + 1) j
    have hc := World.cell?_alloc_mark w.drew (bytesRow (textOf l) cap) 5 (cap, cap + 1) j
    constructor
    · have : ((w.drew.alloc (.cells (bytesRow (textOf l) cap) 5 (cap, cap + 1))).cell? ⟨w.heap.size, j, none⟩) = (bytesRow (textOf l) cap)[j]? := hc
      rw [this, Array.getElem?_eq_getElem (by omega)]
      rfl
    · have : ((w.drew.alloc (.cells (bytesRow (textOf l) cap) 5 (cap, cap + 1))).frozen? ⟨w.heap.size, j, none⟩) = (decide (cap ≤ j) && decide (j < cap + 1)) := hf
      rw [this]
      simp
      omega
  · have hc := World.cell?_alloc_mark w.drew (bytesRow (textOf l) cap) 5 (cap, cap + 1) j
    have h1 : ((w.drew.alloc (.cells (bytesRow (textOf l) cap) 5 (cap, cap + 1))).cell? ⟨w.heap.size, j, none⟩) = (bytesRow (textOf l) cap)[j]? := hc
    have hd : j < (textOf l).data.size := by
      have : (textOf l).data.size = l.length := textOf_size l
      omega
    rw [h1, bytesRow_at (textOf l) cap j hd]
    have hb := bytesOf_get (textOf l) j (by rw [textOf_size]; exact hj)
    have hbl := bytesOf_textOf l hl
    have h2 : ((textOf l).data[j]'hd).toNat = l.getD j 0 := by
      have e : ((textOf l).data[j]'hd).toNat = ((textOf l)[j]'(by rw [textOf_size]; exact hj)).toNat := rfl
      rw [e, ← hb, List.getD_eq_getElem?_getD, List.getElem?_eq_getElem hj]
      simp [hbl]
    rw [h2]

/-- .. and back. -/
theorem run_buf_text {B : Nat} {w : World} {g cap : Nat} {l : List Nat} (h : Buf B w g cap l) (n : Nat) (hn : n = l.length) : (convert 107 9 (.slice (some ⟨g, 0, none⟩) n cap)).run Tryz.prog w = .ok (.string (textOf l)) w := by
  subst hn
  rw [textOf_eq]
  refine run_convert_bytes_arg w 107 5 Tryz.underlying107 Tryz.underlying5 g 0 l.length cap _ (by simp) (fun i hi => ?_) 9 Tryz.underlying9
  rw [Nat.zero_add, h.cells i hi]
  simp [List.getD, hi]

end Go.Proofs.YtaepgjheknkojaaGreat

namespace Go.Proofs.YtaepgjheknkojaaGreat
open Go.RowKit
set_option linter.unusedSimpArgs false
set_option linter.unusedVariables false
/-- The exponent of a number. -/
def lg (n : Nat) : Nat := n.log2

theorem lg_spec (n : Nat) (h : 1 ≤ n) : 2 ^ lg n ≤ n ∧ n < 2 ^ (lg n + 1) := ⟨Nat.log2_self_le (by omega), Nat.lt_log2_self⟩

theorem lg_le (n : Nat) (h : 1 ≤ n) (h2 : n ≤ 655350) : lg n ≤ 19 := by
  have := (Nat.log2_lt (n := n) (k := 20) (by omega)).2 (by omega)
  unfold lg
  omega

theorem lg_unique (n e : Nat) (h1 : 2 ^ e ≤ n) (h2 : n < 2 ^ (e + 1)) : lg n = e := by
  have h0 : n ≠ 0 := by have := Nat.two_pow_pos e; omega
  exact (Nat.log2_eq_iff h0).2 ⟨h1, h2⟩

theorem bitLen_lg (n : Nat) (h : 1 ≤ n) : bitLen n = lg n + 1 := by unfold bitLen lg; rw [if_neg (by omega)]

/-- The number drawn up to the top of its eight bytes. -/
def drawn (n : Nat) : Nat := n * 2 ^ (63 - lg n)

theorem drawn_lt (n : Nat) (h : 1 ≤ n) (h2 : n ≤ 655350) : drawn n < 18446744073709551616 := by
  have hl := lg_le n h h2
  have hs := (lg_spec n h).2
  have h3 : n * 2 ^ (63 - lg n) < 2 ^ (lg n + 1) * 2 ^ (63 - lg n) := Nat.mul_lt_mul_of_pos_right hs (Nat.two_pow_pos _)
  rw [← Nat.pow_add, show lg n + 1 + (63 - lg n) = 64 from by omega] at h3
  exact h3

/-- The bytes of a rate. -/
def rateL (n : Nat) : List Nat := highL (16383 + lg n) 2 ++ highL (drawn n) 8

theorem rateL_lt (n : Nat) : ∀ b ∈ rateL n, b < 256 := by
  intro b hb
  rcases List.mem_append.1 hb with h | h
  · exact highL_lt _ _ b h
  · exact highL_lt _ _ b h

theorem rateL_length (n : Nat) : (rateL n).length = 10 := by unfold rateL; rw [List.length_append, highL_length, highL_length]

def ratB (n : Int) : Bool := decide (1 ≤ n ∧ n ≤ 655350)

def ratT (n : Int) : ByteArray := if ratB n then textOf (rateL n.toNat) else ⟨#[]⟩

def ratE (n : Int) : Int := if ratB n then 0 else 11

theorem ratB_nat {n : Int} (h : ratB n = true) : ∃ m : Nat, n = m ∧ 1 ≤ m ∧ m ≤ 655350 := by
  unfold ratB at h
  have h := of_decide_eq_true h
  exact ⟨n.toNat, by omega, by omega, by omega⟩

theorem ratB_of (m : Nat) (h1 : 1 ≤ m) (h : m ≤ 655350) : ratB (m : Int) = true := by unfold ratB; exact decide_eq_true (by omega)

theorem ratB_no {n : Int} (h : ratB n = false) : n < 1 ∨ 655350 < n := by
  by_cases a : n < 1
  · exact .inl a
  · by_cases b : 655350 < n
    · exact .inr b
    · have : ratB n = true := by unfold ratB; exact decide_eq_true (by omega)
      rw [this] at h
      cases h

theorem ratT_nat (m : Nat) (h1 : 1 ≤ m) (h : m ≤ 655350) : ratT (m : Int) = textOf (rateL m) := by unfold ratT; rw [ratB_of m h1 h]; simp

theorem ratE_nat (m : Nat) (h1 : 1 ≤ m) (h : m ≤ 655350) : ratE (m : Int) = 0 := by unfold ratE; rw [ratB_of m h1 h]; simp

theorem ratT_no (n : Int) (h : ratB n = false) : ratT n = ⟨#[]⟩ := by unfold ratT; rw [h]; rfl

theorem ratE_no (n : Int) (h : ratB n = false) : ratE n = 11 := by unfold ratE; rw [h]; rfl

theorem ret_wraps2 {T : Nat} (c x y : Nat) (h : T = y) (h8 : y ≤ 8) (hc : c ≤ 64) (hx : x = c + y) : wrap64 ((c : Int) + wrap64 (T : Int)) = (x : Int) := by
  subst h
  unfold wrap64
  omega

theorem ret_wraps {T : Nat} (x : Nat) (h : T = x) (h8 : x ≤ 64) : wrap64 (wrap64 (T : Int)) = (x : Int) := by
  subst h
  unfold wrap64
  omega

set_option maxRecDepth 100000 in
theorem len64_spec (x : Nat) (hx : x < 16777216) (w : World) : Calls Tryz.prog 121 #[.int .u64 (x : Int)] w fun e w' => e = .returned (.int .i64 (bitLen x : Int)) ∧ w' = w := by
  have hd1 : decide ((4294967296 : Int) ≤ (x : Int)) = false := by simp; omega
  by_cases h1 : x < 256
  · have hd2 : decide ((65536 : Int) ≤ (x : Int)) = false := by simp; omega
    have hd3 : decide ((256 : Int) ≤ (x : Int)) = false := by simp; omega
    go_enter Tryz.func121, Tryz.ntmps121
    generalize hT : ByteArray.mk (List.toArray (List.append _ _)) = T
    have hsz : T.size = 256 := by rw [← hT]; rfl
    have hget : ∀ i (h : i < T.size), (T[i]'h).toNat = bitLen i := by subst hT; exact len8tab_get
    have HG : Hid _ := hget
    clear hT hget
    go_wp2
    go_ret
    exact ⟨ret_int (ret_wraps _ (HG.out x (by omega)) (by have := bitLen_le8 x h1; omega)), rfl⟩
  · by_cases h2 : x < 65536
    · have hd2 : decide ((65536 : Int) ≤ (x : Int)) = false := by simp; omega
      have hd3 : decide ((256 : Int) ≤ (x : Int)) = true := by simp; omega
      have hs := bitLen_shift x 8 (by omega)
      obtain ⟨y, hy⟩ : ∃ y, y = x / 2 ^ 8 := ⟨_, rfl⟩
      rw [← hy] at hs
      have hq : (x : Int) / 256 = (y : Int) := by omega
      have hy2 : y < 256 := by omega
      have HS : Hid _ := hs
      clear hs hy
      go_enter Tryz.func121, Tryz.ntmps121
      generalize hT : ByteArray.mk (List.toArray (List.append _ _)) = T
      have hsz : T.size = 256 := by rw [← hT]; rfl
      have hget : ∀ i (h : i < T.size), (T[i]'h).toNat = bitLen i := by subst hT; exact len8tab_get
      have HG : Hid _ := hget
      clear hT hget
      go_wp2
      go_ret
      exact ⟨ret_int (ret_wraps2 8 _ _ (HG.out y (by omega)) (bitLen_le8 y hy2) (by omega) HS.out), rfl⟩
    · have hd2 : decide ((65536 : Int) ≤ (x : Int)) = true := by simp; omega
      have hs := bitLen_shift x 16 (by omega)
      obtain ⟨y, hy⟩ : ∃ y, y = x / 2 ^ 16 := ⟨_, rfl⟩
      rw [← hy] at hs
      have hq : (x : Int) / 65536 = (y : Int) := by omega
      have hy2 : y < 256 := by omega
      have hd3 : decide ((256 : Int) ≤ (y : Int)) = false := by simp; omega
      have HS : Hid _ := hs
      clear hs hy
      go_enter Tryz.func121, Tryz.ntmps121
      generalize hT : ByteArray.mk (List.toArray (List.append _ _)) = T
      have hsz : T.size = 256 := by rw [← hT]; rfl
      have hget : ∀ i (h : i < T.size), (T[i]'h).toNat = bitLen i := by subst hT; exact len8tab_get
      have HG : Hid _ := hget
      clear hT hget
      go_wp2
      go_ret
      exact ⟨ret_int (ret_wraps2 16 _ _ (HG.out y (by omega)) (bitLen_le8 y hy2) (by omega) HS.out), rfl⟩

theorem bitsLen_spec (n : Nat) (h1 : 1 ≤ n) (h : n ≤ 655350) (w : World) : Calls Tryz.prog 97 #[.int .u64 (n : Int)] w fun e w' => e = .returned (.int .i64 ((lg n + 1 : Nat) : Int)) ∧ w' = w := by
  have hs := len64_spec n (by omega) w
  rw [bitLen_lg n h1] at hs
  go_enter Tryz.func97, Tryz.ntmps97
  go_wp2_with fail
  refine hs.mono ?_
  rintro e w1 ⟨rfl, rfl⟩
  go_wp2
  go_ret
  exact ⟨rfl, rfl⟩

theorem drawn_wrap (n : Nat) (h1 : 1 ≤ n) (h : n ≤ 655350) : IntKind.u64.wrap ((n : Int) * 2 ^ (63 - lg n)) = (drawn n : Int) := by
  have hd := drawn_lt n h1 h
  unfold drawn at hd ⊢
  have e : (n : Int) * 2 ^ (63 - lg n) = ((n * 2 ^ (63 - lg n) : Nat) : Int) := by simp
  rw [e]
  generalize n * 2 ^ (63 - lg n) = d at *
  rw [IntKind.wrap_u64]
  omega

set_option maxRecDepth 20000 in
set_option maxHeartbeats 800000 in
theorem rate_ok (n : Nat) (h1 : 1 ≤ n) (h : n ≤ 655350) (w : World) :
    Calls Tryz.prog 73 #[.int .i64 (n : Int)] w fun e w' => e = .returned (.tuple #[.string (ratT n), .int .i64 (ratE n)]) ∧ Below w.heap.size w w' := by
  rw [ratT_nat n h1 h, ratE_nat n h1 h]
  unfold rateL
  rw [← textOf_append]
  have hl := lg_le n h1 h
  have hls := bitsLen_spec n h1 h w
  have hdl := drawn_lt n h1 h
  have hdw := drawn_wrap n h1 h
  generalize hg : lg n = g at *
  generalize hd : drawn n = d at *
  have hs1 := textOf_size (highL (16383 + g) 2)
  have hs2 := textOf_size (highL d 8)
  rw [highL_length] at hs1 hs2
  have hh1 : ∀ w, Calls Tryz.prog 98 #[.int .u64 (16383 + (g : Int)), .int .i64 2] w fun e w' => e = .returned (.string (textOf (highL (16383 + g) 2))) ∧ Below w.heap.size w w' := fun w => by
    have := highFirst_spec (16383 + g) 2 (by omega) (by omega) w
    rw [show ((16383 + g : Nat) : Int) = 16383 + (g : Int) from by omega] at this
    exact this
  have hh2 : ∀ w, Calls Tryz.prog 98 #[.int .u64 (d : Int), .int .i64 8] w fun e w' => e = .returned (.string (textOf (highL d 8))) ∧ Below w.heap.size w w' := fun w => highFirst_spec d 8 hdl (by omega) w
  generalize textOf (highL (16383 + g) 2) = t1 at *
  generalize textOf (highL d 8) = t2 at *
  clear hg hd
  go_enter Tryz.func73, Tryz.ntmps73
  go_wp2_with fail
  refine hls.mono ?_
  rintro e w1 ⟨rfl, rfl⟩
  go_wp2_with fail
  refine (hh1 _).mono ?_
  rintro e w2 ⟨rfl, hB2⟩
  go_wp2_with fail
  refine (hh2 _).mono ?_
  rintro e w3 ⟨rfl, hB3⟩
  go_wp2
  go_ret2
  exact ⟨rfl, hB2.trans (hB3.mono hB2.size)⟩

theorem rate_spec (n : Int) (w : World) :
    Calls Tryz.prog 73 #[.int .i64 n] w fun e w' => e = .returned (.tuple #[.string (ratT n), .int .i64 (ratE n)]) ∧ Below w.heap.size w w' := by
  by_cases hb : ratB n = true
  · obtain ⟨m, rfl, h1, hm⟩ := ratB_nat hb
    exact rate_ok m h1 hm w
  · have hf : ratB n = false := by simpa using hb
    rw [ratT_no n hf, ratE_no n hf]
    rcases ratB_no hf with hn | hn
    · clear hb hf
      go_enter Tryz.func73, Tryz.ntmps73
      go_wp2
      go_ret2
      exact ⟨rfl, Below.refl _ _⟩
    · clear hb hf
      go_enter Tryz.func73, Tryz.ntmps73
      go_wp2
      go_ret2
      exact ⟨rfl, Below.refl _ _⟩

theorem lg_test (n e : Nat) (h1 : 1 ≤ n) (h : n ≤ 655350) (he : e ≤ lg n) : decide (wrap64 (2 ^ (e + 1)) ≤ (n : Int)) = decide (e < lg n) := by
  have hl := lg_le n h1 h
  have hs := lg_spec n h1
  have hp : 2 ^ (e + 1) ≤ 2 ^ 20 := Nat.pow_le_pow_right (by decide) (by omega)
  have ew : wrap64 (2 ^ (e + 1)) = ((2 ^ (e + 1) : Nat) : Int) := by
    have e1 : ((2 : Int) ^ (e + 1)) = ((2 ^ (e + 1) : Nat) : Int) := by simp
    rw [e1]
    generalize 2 ^ (e + 1) = p at *
    unfold wrap64
    omega
  rw [ew, Bool.eq_iff_iff]
  simp only [decide_eq_true_eq]
  have key : 2 ^ (e + 1) ≤ n ↔ e < lg n := by
    constructor
    · intro hle
      by_cases h : e < lg n
      · exact h
      · have : e = lg n := by omega
        rw [this] at hle
        omega
    · intro hlt
      have : 2 ^ (e + 1) ≤ 2 ^ lg n := Nat.pow_le_pow_right (by decide) (by omega)
      omega
  omega

theorem high_take (d t : Nat) (h : t < 8) : (highL d 8).take (t + 1) = (highL d 8).take t ++ [d / 256 ^ (7 - t) % 256] := by
  rw [List.take_succ_eq_append_getElem (by rw [highL_length]; exact h)]
  congr 2
  simp [highL]

theorem cell_new (w : World) (v : Value) (t : TypeId) : (w.alloc (.cells #[v] t)).cell? ((Addr.mk w.heap.size 0 none).add 0) = some v := by
  have h : (Addr.mk w.heap.size 0 none).add 0 = ⟨w.heap.size, 0, none⟩ := by simp [Addr.add]
  rw [h]
  simp only [World.cell?, heap_alloc_new]
  rfl

set_option maxRecDepth 20000 in
set_option maxHeartbeats 1600000 in
theorem refrate_ok (n : Nat) (h1 : 1 ≤ n) (h : n ≤ 655350) (w : World) :
    Calls Tryz.prog 41 #[.int .i64 (n : Int)] w fun e w' => e = .returned (.tuple #[.string (ratT n), .int .i64 (ratE n)]) ∧ Below w.heap.size w w' := by
  rw [ratT_nat n h1 h, ratE_nat n h1 h]
  unfold rateL
  have hl := lg_le n h1 h
  have htest := lg_test n
  have hdl := drawn_lt n h1 h
  have hdw := drawn_wrap n h1 h
  generalize lg n = g at *
  generalize drawn n = d at *
  have hh1 : ∀ w, Calls Tryz.prog 37 #[.int .i64 (16383 + (g : Int)), .int .i64 2] w fun e w' => e = .returned (.tuple #[.string (textOf (highL (16383 + g) 2)), .int .i64 0]) ∧ Below w.heap.size w w' := fun w => by
    have hf : fitsB ((16383 + g : Nat) : Int) ((2 : Nat) : Int) = true := fits_of_nat _ 2 (by omega) (by omega) (by omega)
    have := refbe_spec ((16383 + g : Nat) : Int) ((2 : Nat) : Int) (by omega) (by omega) w
    rw [beT_nat _ 2 hf, wE_yes _ _ hf, show ((16383 + g : Nat) : Int) = 16383 + (g : Int) from by omega] at this
    exact this
  go_enter Tryz.func41, Tryz.ntmps41
  go_wp2
  go_loop [4] (fun t => ∃ (e : Nat), e ≤ g ∧ t = .int .i64 (e : Int)) (fun t => g - (intOf t).toNat)
  case atStart => exact ⟨0, by omega, rfl⟩
  case round =>
    obtain ⟨e, heg, rfl⟩ := hrel
    have hT := htest e h1 h heg
    clear htest
    by_cases hlt : e < g
    · rw [decide_eq_true hlt] at hT
      go_wp2
      go_round
      case rel => exact ⟨e + 1, by omega, by go_num⟩
      case measure => simp [intOf]; omega
    · rw [decide_eq_false hlt] at hT
      obtain rfl : e = g := by omega
      go_wp2_with fail
      refine (hh1 _).mono ?_
      rintro e' w1 ⟨rfl, hB1⟩
      obtain ⟨cap, w2, hrun, hbuf, hB2⟩ := run_buf_make w1 (highL (16383 + e) 2) (highL_lt _ _)
      rw [highL_length] at hrun
      have HD : Hid _ := hdw
      clear hT hh1
      go_wp2
      have hB0 := hB1.trans (hB2.mono hB1.size)
      have hb0 : Buf w.heap.size w2 w1.heap.size cap (highL (16383 + e) 2) := ⟨hB1.size, hbuf.lt, hbuf.room, hbuf.there, hbuf.cells⟩
      have hz2 : w.heap.size ≤ w2.heap.size := hB0.size
      generalize w1.heap.size = g1 at *
      have hll : (highL (16383 + e) 2).length = 2 := highL_length _ _
      generalize hL1 : highL (16383 + e) 2 = L1 at *
      have HL1 : Hid _ := hL1
      clear hbuf hB2 hrun hdw hL1
      go_loopw [8, 9] (fun x y wr => ∃ (t g cap : Nat), t ≤ 8 ∧ y = .int .i64 (7 - (t : Int)) ∧ x = .slice (some ⟨g, 0, none⟩) (2 + t) cap ∧ Buf w.heap.size wr g cap (L1 ++ (highL d 8).take t) ∧ w.heap.size ≤ wr.heap.size ∧ Below w.heap.size w wr) (fun _ y _ => (intOf y + 1).toNat)
      case atStart => exact ⟨0, g1, cap, by omega, by simp, rfl, by simpa using hb0, hz2, hB0⟩
      case round =>
        clear hb0 hB0 hz2
        obtain ⟨t, g, cap, ht, rfl, rfl, hbuf, hz, hB⟩ := hrel
        by_cases hlt : t < 8
        · have hst := high_take d t hlt
          have hlen : (L1 ++ (highL d 8).take t).length = 2 + t := by
            rw [List.length_append, List.length_take, highL_length, hll]
            omega
          obtain ⟨j, hj⟩ : ∃ j : Nat, 7 - t = j := ⟨_, rfl⟩
          have hji : (7 : Int) - (t : Int) = (j : Int) := by omega
          rw [hj] at hst
          rw [hji]
          have hby := byte_at d j
          generalize hbb : d / 256 ^ j % 256 = bb at *
          have HST : Hid _ := hst
          have HLN : Hid _ := hlen
          clear hst hbb
          have hal := hbuf.alloc (.cells #[.int .u8 (bb : Int)] 5)
          have hca := cell_new wr (.int .u8 (bb : Int)) 5
          have hza : w.heap.size ≤ (wr.alloc (.cells #[.int .u8 (bb : Int)] 5)).heap.size := by simp; omega
          have hBa : Below w.heap.size w (wr.alloc (.cells #[.int .u8 (bb : Int)] 5)) := hB.alloc hz _
          have HZ : Hid _ := hza
          have HBA : Hid _ := hBa
          clear hbuf hB hza hBa
          go_wp2_with (at_builtin; refine wpList_buf rfl _ _ rfl (2 + t) HLN.out.symm rfl hal HZ.out ⟨wr.heap.size, 0, none⟩ 1 bb rfl hca (by have := HLN.out; omega) ?ce)
          case ce =>
            intro g2 cap2 w4 hb4 hB4
            have hb5 : Buf w.heap.size w4 g2 cap2 (L1 ++ (highL d 8).take (t + 1)) := by
              rw [HST.out]
              exact hb4
            have hz4 : w.heap.size ≤ w4.heap.size := Nat.le_trans HZ.out hB4.size
            have HB5 : Hid _ := hb5
            have HB6 : Hid (Below w.heap.size w w4) := HBA.out.trans hB4
            clear hb4 hB4 hb5 hal hca
            go_wp2
            go_roundw
            case rel => exact ⟨t + 1, g2, cap2, by omega, by go_num, rfl, HB5.out, hz4, HB6.out⟩
            case measure => simp [intOf] <;> omega
        · obtain rfl : t = 8 := by omega
          rw [List.take_of_length_le (by rw [highL_length]; omega)] at hbuf
          have hcv := run_buf_text hbuf 10 (by rw [List.length_append, highL_length, hll])
          go_wp2
          go_ret2
          exact ⟨by rw [HL1.out]; rfl, hB⟩

theorem refrate_spec (n : Int) (w : World) :
    Calls Tryz.prog 41 #[.int .i64 n] w fun e w' => e = .returned (.tuple #[.string (ratT n), .int .i64 (ratE n)]) ∧ Below w.heap.size w w' := by
  by_cases hb : ratB n = true
  · obtain ⟨m, rfl, h1, hm⟩ := ratB_nat hb
    exact refrate_ok m h1 hm w
  · have hf : ratB n = false := by simpa using hb
    rw [ratT_no n hf, ratE_no n hf]
    rcases ratB_no hf with hn | hn
    · clear hb hf
      go_enter Tryz.func41, Tryz.ntmps41
      go_wp2
      go_ret2
      exact ⟨rfl, Below.refl _ _⟩
    · clear hb hf
      go_enter Tryz.func41, Tryz.ntmps41
      go_wp2
      go_ret2
      exact ⟨rfl, Below.refl _ _⟩

end Go.Proofs.YtaepgjheknkojaaGreat
