/- Own text: the bytes of a text in memory of the call's own, one of which is written; the law's own 'kinds' and 'of'; one byte that is another one. -/
import Derived.Test.YtdmgkgomldjnhaaDoorRowtext
import Derived.Laws.IdiomStrings
namespace Go.Proofs.YtdmgkgomldjnhaaDoor
open Go.RowKit
set_option linter.unusedSimpArgs false
set_option linter.unusedVariables false

/-- Block g, from B on, holds the bytes l, and room up to cap. -/
structure Buf (B : Nat) (w : World) (g cap : Nat) (l : List Nat) : Prop where
  base : B ≤ g
  lt : g < w.heap.size
  room : l.length ≤ cap
  there : ∀ j, j < cap → (w.cell? ⟨g, j, none⟩).isSome = true ∧ w.frozen? ⟨g, j, none⟩ = false
  cells : ∀ j, j < l.length → w.cell? ⟨g, j, none⟩ = some (.int .u8 ((l.getD j 0 : Nat) : Int))

theorem Buf.kept {B : Nat} {w w' : World} {g cap : Nat} {l : List Nat} (h : Buf B w g cap l) (hb : w'.heap[g]? = w.heap[g]?) (hs : w.heap.size ≤ w'.heap.size) : Buf B w' g cap l := by
  refine ⟨h.base, Nat.lt_of_lt_of_le h.lt hs, h.room, fun j hj => ?_, fun j hj => ?_⟩
  · rw [World.cell?_of_block (a := ⟨g, j, none⟩) hb, World.frozen?_of_block (a := ⟨g, j, none⟩) hb]
    exact h.there j hj
  · rw [World.cell?_of_block (a := ⟨g, j, none⟩) hb]
    exact h.cells j hj

theorem Buf.set {B : Nat} {w : World} {g cap : Nat} {l : List Nat} (h : Buf B w g cap l) (k b : Nat) (hk : k < l.length) : Buf B (w.setCell ⟨g, k, none⟩ (.int .u8 (b : Int))) g cap (l.set k b) := by
  refine ⟨h.base, by have := h.lt; simpa [World.setCell] using this, by rw [List.length_set]; exact h.room, fun j hj => ?_, fun j hj => ?_⟩
  · rw [World.frozen?_setCell]
    refine ⟨?_, (h.there j hj).2⟩
    by_cases e : j = k
    · subst e
      obtain ⟨u, hu⟩ := Option.isSome_iff_exists.1 (h.there _ hj).1
      rw [World.cell?_setCell_same _ _ _ hu]
      rfl
    · rw [World.cell?_setCell_other _ _ _ _ (by simp <;> omega)]
      exact (h.there j hj).1
  · rw [List.length_set] at hj
    by_cases e : j = k
    · subst e
      rw [World.cell?_setCell_same _ _ _ (h.cells j hj), List.getD_eq_getElem?_getD, List.getElem?_set_self hj]
      rfl
    · rw [World.cell?_setCell_other _ _ _ _ (by simp <;> omega), h.cells j hj, List.getD_eq_getElem?_getD, List.getD_eq_getElem?_getD, List.getElem?_set_ne (by omega)]

/-- The bytes of a text. -/
theorem run_buf_make (w : World) (l : List Nat) (hl : ∀ b ∈ l, b < 256) :
    ∃ cap w', (convert 9 33 (.string (textOf l))).run Tryd.prog w = .ok (.slice (some ⟨w.heap.size, 0, none⟩) l.length cap) w' ∧ Buf w.heap.size w' w.heap.size cap l ∧ Below w.heap.size w w' := by
  have hrun := run_bytes_of_string (P := Tryd.prog) w 9 33 5 (textOf l) Tryd.underlying9 Tryd.underlying33 Tryd.underlying5
  rw [textOf_size] at hrun
  have hge := grownCap_ge w l.length 0 5
  generalize grownCap w l.length 0 5 = cap at *
  have hsz : (bytesRow (textOf l) cap).size = cap := by
    have : (textOf l).data.size = l.length := textOf_size l
    simp [bytesRow, this, textOf_size]
    omega
  rw [hsz] at hrun
  refine ⟨cap, _, hrun, ⟨Nat.le_refl _, by simp, hge, fun j hj => ?_, fun j hj => ?_⟩, ⟨rfl, rfl, rfl, by simp, fun k hk => Below.heap_alloc w.drew _ k hk⟩⟩
  · have hf := World.frozen?_alloc_mark w.drew (bytesRow (textOf l) cap) 5 cap (cap + 1) j
    have hc := World.cell?_alloc_mark w.drew (bytesRow (textOf l) cap) 5 (cap, cap + 1) j
    constructor
    · have : ((w.drew.alloc (.cells (bytesRow (textOf l) cap) 5 (cap, cap + 1))).cell? ⟨w.heap.size, j, none⟩) = (bytesRow (textOf l) cap)[j]? := hc
      rw [this, Array.getElem?_eq_getElem (by omega)]
      rfl
    · have : ((w.drew.alloc (.cells (bytesRow (textOf l) cap) 5 (cap, cap + 1))).frozen? ⟨w.heap.size, j, none⟩) = (decide (cap ≤ j) && decide (j < cap + 1)) := hf
      rw [this]
      simp
      omega
  · have hc := World.cell?_alloc_mark w.drew (bytesRow (textOf l) cap) 5 (cap, cap + 1) j
    have h1 : ((w.drew.alloc (.cells (bytesRow (textOf l) cap) 5 (cap, cap + 1))).cell? ⟨w.heap.size, j, none⟩) = (bytesRow (textOf l) cap)[j]? := hc
    have hd : j < (textOf l).data.size := by
      have : (textOf l).data.size = l.length := textOf_size l
      omega
    rw [h1, bytesRow_at (textOf l) cap j hd]
    have hb := bytesOf_get (textOf l) j (by rw [textOf_size]; exact hj)
    have hbl := bytesOf_textOf l hl
    have h2 : ((textOf l).data[j]'hd).toNat = l.getD j 0 := by
      have e : ((textOf l).data[j]'hd).toNat = ((textOf l)[j]'(by rw [textOf_size]; exact hj)).toNat := rfl
      rw [e, ← hb, List.getD_eq_getElem?_getD, List.getElem?_eq_getElem hj]
      simp [hbl]
    rw [h2]

/-- .. and back. -/
theorem run_buf_text {B : Nat} {w : World} {g cap : Nat} {l : List Nat} (h : Buf B w g cap l) (n : Nat) (hn : n = l.length) : (convert 33 9 (.slice (some ⟨g, 0, none⟩) n cap)).run Tryd.prog w = .ok (.string (textOf l)) w := by
  subst hn
  rw [textOf_eq]
  refine run_convert_bytes_arg w 33 5 Tryd.underlying33 Tryd.underlying5 g 0 l.length cap _ (by simp) (fun i hi => ?_) 9 Tryd.underlying9
  rw [Nat.zero_add, h.cells i hi]
  simp [List.getD, hi]

/-- The four kinds, by their place. -/
def kd : Nat → Int | 0 => 8 | 1 => 16 | 2 => 32 | _ => 33
def cOf : Nat → ByteArray → Nat | 0 => c8 | 1 => c16 | 2 => c32 | _ => c33

set_option maxRecDepth 20000 in
set_option maxHeartbeats 400000 in
theorem kinds_spec (w : World) : Calls Tryd.prog 21 #[] w fun e w' => e = .returned (.slice (some ⟨w.heap.size, 0, none⟩) 4 4) ∧ w' = w.alloc (.cells #[.int .i64 8, .int .i64 16, .int .i64 32, .int .i64 33] 3) := by
  go_enter Tryd.func21, Tryd.ntmps21
  go_wp2
  go_ret
  exact ⟨rfl, rfl⟩

set_option maxRecDepth 20000 in
set_option maxHeartbeats 400000 in
theorem lawOf_8 (s : ByteArray) (hs : s.size ≤ 200000000000000) (w : World) (hR : RulesAt w) : Calls Tryd.prog 22 #[.int .i64 8, .string s] w fun e w' => e = .returned (.int .i64 (c8 s : Int)) ∧ Below w.heap.size w w' := by
  have HC : Hid (Calls Tryd.prog 8 #[.string s] w fun e w' => e = .returned (.int .i64 (c8 s : Int)) ∧ Below w.heap.size w w') := crc8_spec s hs w hR
  generalize c8 s = v at HC ⊢
  clear hR
  go_enter Tryd.func22, Tryd.ntmps22
  go_wp2_with fail
  refine HC.out.mono ?_
  rintro e w1 ⟨rfl, hB⟩
  have HB : Hid (Below w.heap.size w w1) := hB
  clear hB
  go_wp2
  go_ret
  exact ⟨rfl, HB.out⟩

set_option maxRecDepth 20000 in
set_option maxHeartbeats 400000 in
theorem lawOf_16 (s : ByteArray) (hs : s.size ≤ 200000000000000) (w : World) (hR : RulesAt w) : Calls Tryd.prog 22 #[.int .i64 16, .string s] w fun e w' => e = .returned (.int .i64 (c16 s : Int)) ∧ Below w.heap.size w w' := by
  have HC : Hid (Calls Tryd.prog 10 #[.string s] w fun e w' => e = .returned (.int .i64 (c16 s : Int)) ∧ Below w.heap.size w w') := crc16_spec s hs w hR
  generalize c16 s = v at HC ⊢
  clear hR
  go_enter Tryd.func22, Tryd.ntmps22
  go_wp2_with fail
  refine HC.out.mono ?_
  rintro e w1 ⟨rfl, hB⟩
  have HB : Hid (Below w.heap.size w w1) := hB
  clear hB
  go_wp2
  go_ret
  exact ⟨rfl, HB.out⟩

set_option maxRecDepth 20000 in
set_option maxHeartbeats 400000 in
theorem lawOf_32 (s : ByteArray) (hs : s.size ≤ 200000000000000) (w : World) (hR : RulesAt w) : Calls Tryd.prog 22 #[.int .i64 32, .string s] w fun e w' => e = .returned (.int .i64 (c32 s : Int)) ∧ Below w.heap.size w w' := by
  have HC : Hid (Calls Tryd.prog 12 #[.string s] w fun e w' => e = .returned (.int .i64 (c32 s : Int)) ∧ Below w.heap.size w w') := ogg_spec s hs w hR
  generalize c32 s = v at HC ⊢
  clear hR
  go_enter Tryd.func22, Tryd.ntmps22
  go_wp2_with fail
  refine HC.out.mono ?_
  rintro e w1 ⟨rfl, hB⟩
  have HB : Hid (Below w.heap.size w w1) := hB
  clear hB
  go_wp2
  go_ret
  exact ⟨rfl, HB.out⟩

set_option maxRecDepth 20000 in
set_option maxHeartbeats 400000 in
theorem lawOf_33 (s : ByteArray) (hs : s.size ≤ 200000000000000) (w : World) (hR : RulesAt w) : Calls Tryd.prog 22 #[.int .i64 33, .string s] w fun e w' => e = .returned (.int .i64 (c33 s : Int)) ∧ Below w.heap.size w w' := by
  have HC : Hid (Calls Tryd.prog 14 #[.string s] w fun e w' => e = .returned (.int .i64 (c33 s : Int)) ∧ Below w.heap.size w w') := crc32_spec s hs w hR
  generalize c33 s = v at HC ⊢
  clear hR
  go_enter Tryd.func22, Tryd.ntmps22
  go_wp2_with fail
  refine HC.out.mono ?_
  rintro e w1 ⟨rfl, hB⟩
  have HB : Hid (Below w.heap.size w w1) := hB
  clear hB
  go_wp2
  go_ret
  exact ⟨rfl, HB.out⟩

theorem lawOf_spec (i : Nat) (s : ByteArray) (hs : s.size ≤ 200000000000000) (w : World) (hR : RulesAt w) : Calls Tryd.prog 22 #[.int .i64 (kd i), .string s] w fun e w' => e = .returned (.int .i64 (cOf i s : Int)) ∧ Below w.heap.size w w' := by
  rcases i with _ | _ | _ | i
  · exact lawOf_8 s hs w hR
  · exact lawOf_16 s hs w hR
  · exact lawOf_32 s hs w hR
  · exact lawOf_33 s hs w hR

/-- A text of which one byte is another one. -/
def spoiltL (s : ByteArray) (k ch : Nat) : List Nat := (bytesOf s).set k ((bytesOf s).getD k 0 ^^^ ch)

theorem spoilt_parts (s : ByteArray) (k ch : Nat) (hk : k < s.size) (hch : ch < 256) (h0 : ch ≠ 0) :
    ∃ (l r : List Nat) (b c : Nat), bytesOf s = l ++ b :: r ∧ spoiltL s k ch = l ++ c :: r ∧ b < 256 ∧ c < 256 ∧ b ≠ c ∧ b = (bytesOf s).getD k 0 ∧ c = (bytesOf s).getD k 0 ^^^ ch := by
  have hl : k < (bytesOf s).length := by rw [bytesOf_length]; exact hk
  have hb : (bytesOf s).getD k 0 = (bytesOf s)[k] := by rw [List.getD_eq_getElem?_getD, List.getElem?_eq_getElem hl]; rfl
  have h256 : (bytesOf s)[k] < 256 := bytesOf_lt s _ (List.getElem_mem hl)
  refine ⟨(bytesOf s).take k, (bytesOf s).drop (k + 1), (bytesOf s)[k], (bytesOf s)[k] ^^^ ch, ?_, ?_, h256, Nat.xor_lt_two_pow (n := 8) h256 hch, ?_, hb.symm, by rw [hb]⟩
  · rw [← List.drop_eq_getElem_cons hl, List.take_append_drop]
  · unfold spoiltL
    rw [hb, List.set_eq_take_append_cons_drop, if_pos hl]
  · intro e
    apply h0
    have h1 : (bytesOf s)[k] ^^^ ((bytesOf s)[k] ^^^ ch) = (bytesOf s)[k] ^^^ (bytesOf s)[k] := by rw [← e]
    rw [← Nat.xor_assoc, Nat.xor_self, Nat.zero_xor] at h1
    exact h1

theorem spoiltL_lt (s : ByteArray) (k ch : Nat) (hk : k < s.size) (hch : ch < 256) (h0 : ch ≠ 0) : ∀ b ∈ spoiltL s k ch, b < 256 := by
  intro b hb
  obtain ⟨l, r, x, y, e1, e2, hx, hy, _, _, _⟩ := spoilt_parts s k ch hk hch h0
  have hall := bytesOf_lt s
  rw [e1] at hall
  rw [e2] at hb
  rcases List.mem_append.1 hb with h | h
  · exact hall b (List.mem_append.2 (.inl h))
  · rcases List.mem_cons.1 h with h | h
    · rw [h]; exact hy
    · exact hall b (List.mem_append.2 (.inr (List.mem_cons.2 (.inr h))))

theorem spoiltL_length (s : ByteArray) (k ch : Nat) : (spoiltL s k ch).length = s.size := by
  unfold spoiltL
  rw [List.length_set, bytesOf_length]

theorem spoilt_ne (i : Nat) (s : ByteArray) (k ch : Nat) (hk : k < s.size) (hch : ch < 256) (h0 : ch ≠ 0) : cOf i s ≠ cOf i (textOf (spoiltL s k ch)) := by
  have hlt := spoiltL_lt s k ch hk hch h0
  obtain ⟨l, r, x, y, e1, e2, hx, hy, hne, _, _⟩ := spoilt_parts s k ch hk hch h0
  have hb : bytesOf (textOf (spoiltL s k ch)) = l ++ y :: r := by rw [bytesOf_textOf _ hlt, e2]
  rcases i with _ | _ | _ | i
  · show c8 s ≠ c8 _
    unfold c8
    rw [hb, e1]
    intro h
    exact crcL_spoilt p8 odd8 told8 0#8 l r x y hx hy hne (BitVec.eq_of_toNat_eq h)
  · show c16 s ≠ c16 _
    unfold c16
    rw [hb, e1]
    intro h
    exact crcL_spoilt p16 odd16 told16 0#16 l r x y hx hy hne (BitVec.eq_of_toNat_eq h)
  · show c32 s ≠ c32 _
    unfold c32
    rw [hb, e1]
    intro h
    exact crcL_spoilt p32 odd32 told32 0#32 l r x y hx hy hne (BitVec.eq_of_toNat_eq h)
  · show c33 s ≠ c33 _
    unfold c33
    rw [hb, e1]
    intro h
    have h2 := congrArg (· ^^^ 4294967295) h
    simp only [Nat.xor_assoc, Nat.xor_self, Nat.xor_zero] at h2
    exact crcR_spoilt q32 high32 (by decide) 0xFFFFFFFF#32 l r x y hx hy hne (BitVec.eq_of_toNat_eq h2)

end Go.Proofs.YtdmgkgomldjnhaaDoor
