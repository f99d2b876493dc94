/- Own text: the walk of awake. -/
import Derived.Test.YtfnkdahocehilaaGreatG49x
import Derived.Test.YtfnkdahocehilaaGreatQ6Parse2
namespace Go.Proofs.YtfnkdahocehilaaGreat
open Go.RowKit
set_option linter.unusedSimpArgs false
set_option linter.unusedVariables false

/-- A box of samples. -/
structure PB (b : Nat) (p : Pcm) (o : Option Addr) (c : Nat) (w : World) : Prop where
  box : w.heap[b]? = some (.cells (pcmC p o c) 37 (0, 0))
  rows : RowsAt w o p.pl
theorem PB.next {b : Nat} {p : Pcm} {o : Option Addr} {c : Nat} {w w' : World} (h : PB b p o c w) (hB : Below w.heap.size w w') : PB b p o c w' := ⟨(hB.block _ (lt_of_block h.box)).trans h.box, h.rows.below hB⟩
theorem PB.p {b : Nat} {p : Pcm} {o : Option Addr} {c : Nat} {w : World} (h : PB b p o c w) (j : Nat) (v : Value) (hv : (pcmC p o c)[j]? = some v) : w.cell? ⟨b, j, none⟩ = some v := by rw [cell_of_row _ _ _ _ _ _ h.box]; exact hv
theorem PB.new {p : Pcm} {o : Option Addr} {w : World} (h : RowsAt w o p.pl) (c : Nat) : PB w.heap.size p o c (w.alloc (.cells (pcmC p o c) 37)) := ⟨heap_alloc_new w _, h.below ((Below.refl _ _).alloc (Nat.le_refl _) _)⟩
/-- A box of a skeleton. -/
structure WB (b : Nat) (f : ByteArray) (l : List Chk) (o : Option Addr) (c : Nat) (w : World) : Prop where
  box : w.heap[b]? = some (.cells (waveC f l o c) 39 (0, 0))
  chks : ChksAt w o l
theorem WB.next {b : Nat} {f : ByteArray} {l : List Chk} {o : Option Addr} {c : Nat} {w w' : World} (h : WB b f l o c w) (hB : Below w.heap.size w w') : WB b f l o c w' := ⟨(hB.block _ (lt_of_block h.box)).trans h.box, h.chks.below hB⟩
theorem WB.p {b : Nat} {f : ByteArray} {l : List Chk} {o : Option Addr} {c : Nat} {w : World} (h : WB b f l o c w) (j : Nat) (v : Value) (hv : (waveC f l o c)[j]? = some v) : w.cell? ⟨b, j, none⟩ = some v := by rw [cell_of_row _ _ _ _ _ _ h.box]; exact hv
theorem WB.new {f : ByteArray} {l : List Chk} {o : Option Addr} {w : World} (h : ChksAt w o l) (c : Nat) : WB w.heap.size f l o c (w.alloc (.cells (waveC f l o c) 39)) := ⟨heap_alloc_new w _, h.below ((Below.refl _ _).alloc (Nat.le_refl _) _)⟩
theorem belA (w : World) (o : Obj) : Below w.heap.size w (w.alloc o) := (Below.refl _ _).alloc (Nat.le_refl _) _
theorem eql_k10 (w : World) : (binOp .eql 52 (.agg #[.string ⟨#[97, 98, 99, 100]⟩, .string ⟨#[122]⟩, .int .i64 7]) (.agg #[.string ⟨#[97, 98, 99, 100]⟩, .string ⟨#[122]⟩, .int .i64 7])).run Tryz.prog w = .ok (.bool true) w := by
  rw [run_eql_struct]
  have h := eq_chk k10 k10 w
  rw [chkB_refl] at h
  rw [show (Op.equalIn 10000 52 (.agg #[.string ⟨#[97, 98, 99, 100]⟩, .string ⟨#[122]⟩, .int .i64 7]) (.agg #[.string ⟨#[97, 98, 99, 100]⟩, .string ⟨#[122]⟩, .int .i64 7])).run Tryz.prog w = _ from h]
  rfl
/-- Taking awake's text apart. -/
theorem Parse16 (w : World) : Calls Tryz.prog 12 #[.string s16] w fun e w' => ∃ po pc wo wc, e = .returned (.tuple #[pcmV (two 16) po pc, .agg (waveC riffT (plainL (two 16)) wo wc), .int .i64 0]) ∧ Below w.heap.size w w' ∧ RowsAt w' po (two 16).pl ∧ ChksAt w' wo (plainL (two 16)) := by
  obtain ⟨_, _, _, h4, h5, h6, h7⟩ := hold_plain (two 16) fits16
  refine (Parse_spec s16 w).mono fun e w' h => ?_
  obtain ⟨q, po, pc, wf, l, wo, wc, e1, hB, hr, hc, hy, _⟩ := h
  have h4 : parE s16 = 0 := h4
  obtain ⟨y1, y2, y3⟩ := hy h4
  have h5 : fP (readR s16).1 = two 16 := h5
  have h6 : s16.extract 0 4 = riffT := h6
  have h7 : (readR s16).2.1 = plainL (two 16) := h7
  rw [h5] at y1
  rw [h6] at y2
  rw [h7] at y3
  subst y1
  subst y2
  subst y3
  rw [h4] at e1
  exact ⟨po, pc, wo, wc, e1, hB, hr, hc⟩
theorem ParseX (w : World) : Calls Tryz.prog 12 #[.string (s16 ++ ⟨#[120]⟩)] w fun e w' => ∃ po pc wo wc, e = .returned (.tuple #[pcmV ⟨0, 0, 0, []⟩ po pc, .agg (waveC ⟨#[]⟩ [] wo wc), .int .i64 2]) ∧ Below w.heap.size w w' := by
  refine (Parse_spec _ w).mono fun e w' h => ?_
  obtain ⟨q, po, pc, wf, l, wo, wc, e1, hB, hr, hc, _, hn⟩ := h
  obtain ⟨y1, y2, y3⟩ := hn (by rw [par_x]; decide)
  subst y1
  subst y2
  subst y3
  rw [par_x] at e1
  exact ⟨po, pc, wo, wc, e1, hB⟩
theorem Chunks10 (w : World) : Calls Tryz.prog 6 #[.string ⟨#[97, 98, 99, 100, 1, 0, 0, 0, 122, 7]⟩, .bool false] w fun e w' => ∃ b off cap, e = .returned (.tuple #[.slice (some ⟨b, off, none⟩) 1 cap, .int .i64 0]) ∧ Below w.heap.size w w' ∧ (∀ wx, Below w'.heap.size w' wx → wx.cell? ⟨b, off, none⟩ = some (.string ⟨#[97, 98, 99, 100]⟩) ∧ wx.cell? ⟨b, off + 1, none⟩ = some (.string ⟨#[122]⟩) ∧ wx.cell? ⟨b, off + 2, none⟩ = some (.int .i64 7)) := by
  have k := chunks_spec c10 false w (by decide)
  rw [chunk10] at k
  refine k.mono fun e w' h => ?_
  obtain ⟨ao, cap, e1, hc, hB⟩ := h
  obtain ⟨b, off, rfl, hx⟩ := hc.at 0 k10 rfl
  exact ⟨b, off, cap, e1, hB, fun wx hw => by simpa [k10] using hx wx hw⟩
theorem Build16 (po : Option Addr) (pc : Nat) (wo : Option Addr) (wq : Nat) (w : World) (hr : RowsAt w po (two 16).pl) (hl : ChksAt w wo (plainL (two 16))) : Calls Tryz.prog 16 #[pcmV (two 16) po pc, .agg (waveC riffT (plainL (two 16)) wo wq)] w fun e w' => e = .returned (.tuple #[.string s16, .int .i64 0]) ∧ Below w.heap.size w w' := by
  have h := Build_spec (two 16) po pc riffT (plainL (two 16)) wo wq w hr hl (fair_plain _ fits16) (by decide)
  rw [(hold_plain (two 16) fits16).1] at h
  exact h
theorem Plain16 (po : Option Addr) (pc : Nat) (w : World) (hr : RowsAt w po (two 16).pl) : Calls Tryz.prog 18 #[pcmV (two 16) po pc] w fun e w' => ∃ wo wc, e = .returned (.agg (waveC riffT (plainL (two 16)) wo wc)) ∧ ChksAt w' wo (plainL (two 16)) ∧ Below w.heap.size w w' := by
  have h := Plain_spec (two 16) po pc w hr
  refine h.mono fun e w' h => ?_
  obtain ⟨wo, wc, e1, h2, h3⟩ := h
  unfold plF plL at e1
  unfold plL at h2
  rw [if_pos fits16, if_pos fits16] at e1
  rw [if_pos fits16] at h2
  exact ⟨wo, wc, e1, h2, h3⟩
theorem plain_len (p : Pcm) : (plainL p).length = 2 := rfl
theorem same16 (a b : Option Addr) (c d : Nat) (w : World) (h1 : RowsAt w a (two 16).pl) (h2 : RowsAt w b (two 16).pl) : Calls Tryz.prog 14 #[pcmV (two 16) a c, pcmV (two 16) b d] w fun e w' => e = .returned (.bool true) ∧ Below w.heap.size w w' := by
  have h := rsame_spec (two 16) (two 16) a b c d w h1 h2
  rw [sameB_refl] at h
  exact h
theorem sameW_spec (f : ByteArray) (l : List Chk) (hll : l.length ≤ 9000000000000000) (a b : Option Addr) (c d : Nat) (w : World) (h1 : ChksAt w a l) (h2 : ChksAt w b l) : Calls Tryz.prog 15 #[.agg (waveC f l a c), .agg (waveC f l b d)] w fun e w' => e = .returned (.bool true) ∧ Below w.heap.size w w' := by
  have h := r6same_spec f f l l a b c d w h1 h2 hll
  rw [sameW_refl] at h
  exact h

set_option maxRecDepth 20000 in
set_option maxHeartbeats 6400000 in
theorem awake6_spec (w : World) : Calls Tryz.prog 11 #[] w fun e w' => e = .returned (.bool true) ∧ Below w.heap.size w w' := by
  have HS : Hid (s16.size = 48 ∧ s16.extract 0 4 = riffT) := ⟨s16_size, (hold_plain (two 16) fits16).2.2.2.2.2.1⟩
  have KB : Hid (∀ po pc wo wq wx, RowsAt wx po (two 16).pl → ChksAt wx wo (plainL (two 16)) → Calls Tryz.prog 16 #[pcmV (two 16) po pc, .agg (waveC riffT (plainL (two 16)) wo wq)] wx fun e w' => e = .returned (.tuple #[.string s16, .int .i64 0]) ∧ Below wx.heap.size wx w') := Build16
  have KP : Hid (∀ wx, Calls Tryz.prog 12 #[.string s16] wx fun e w' => ∃ po pc wo wc, e = .returned (.tuple #[pcmV (two 16) po pc, .agg (waveC riffT (plainL (two 16)) wo wc), .int .i64 0]) ∧ Below wx.heap.size wx w' ∧ RowsAt w' po (two 16).pl ∧ ChksAt w' wo (plainL (two 16))) := Parse16
  have KX : Hid (∀ wx, Calls Tryz.prog 12 #[.string (s16 ++ ⟨#[120]⟩)] wx fun e w' => ∃ po pc wo wc, e = .returned (.tuple #[pcmV ⟨0, 0, 0, []⟩ po pc, .agg (waveC ⟨#[]⟩ [] wo wc), .int .i64 2]) ∧ Below wx.heap.size wx w') := ParseX
  generalize s16 = S at *
  have kt := two_spec 16 w
  go_enter Tryz.func11, Tryz.ntmps11
  go_wp2_with fail
  refine kt.mono ?_
  rintro e w1 ⟨a1, c1, rfl, r1, h1⟩
  have HP1 : Hid (PB w1.heap.size (two 16) a1 c1 (w1.alloc (.cells (pcmC (two 16) a1 c1) 37))) := PB.new r1 c1
  have HB1 : Hid (Below w.heap.size w (w1.alloc (.cells (pcmC (two 16) a1 c1) 37))) := h1.trans ((belA _ _).mono h1.size)
  have k2 := Plain16 a1 c1 _ HP1.out.rows
  generalize hW : w1.alloc (.cells (pcmC (two 16) a1 c1) 37) = W1 at *
  clear kt r1 h1
  have x0 := HP1.out.p 0 _ rfl
  have x1 := HP1.out.p 1 _ rfl
  have x2 := HP1.out.p 2 _ rfl
  have x3 := HP1.out.p 3 _ rfl
  go_wp2_with fail
  refine k2.mono ?_
  rintro e w2 ⟨o2, c2, rfl, q2, h2⟩
  have HW2 : Hid (WB w2.heap.size riffT (plainL (two 16)) o2 c2 (w2.alloc (.cells (waveC riffT (plainL (two 16)) o2 c2) 39))) := WB.new q2 c2
  have HP2 : Hid (PB w1.heap.size (two 16) a1 c1 (w2.alloc (.cells (waveC riffT (plainL (two 16)) o2 c2) 39))) := (HP1.out.next h2).next (belA _ _)
  have HB2 : Hid (Below w.heap.size w (w2.alloc (.cells (waveC riffT (plainL (two 16)) o2 c2) 39))) := (HB1.out.trans (h2.mono HB1.out.size)).trans ((belA _ _).mono (HB1.out.trans (h2.mono HB1.out.size)).size)
  clear x0 x1 x2 x3 k2 q2 h2 HP1 HB1 hW
  generalize hW : w2.alloc (.cells (waveC riffT (plainL (two 16)) o2 c2) 39) = W2 at *
  generalize hb1 : w1.heap.size = b1 at *
  generalize hb2 : w2.heap.size = b2 at *
  have k3 := KB.out a1 c1 o2 c2 W2 HP2.out.rows HW2.out.chks
  have x0 := HP2.out.p 0 _ rfl
  have x1 := HP2.out.p 1 _ rfl
  have x2 := HP2.out.p 2 _ rfl
  have x3 := HP2.out.p 3 _ rfl
  have y0 := HW2.out.p 0 _ rfl
  have y1 := HW2.out.p 1 _ rfl
  go_wp2_with fail
  refine k3.mono ?_
  rintro e w3 ⟨rfl, h3⟩
  have HP3 : Hid (PB b1 (two 16) a1 c1 w3) := HP2.out.next h3
  have HW3 : Hid (WB b2 riffT (plainL (two 16)) o2 c2 w3) := HW2.out.next h3
  have HB3 : Hid (Below w.heap.size w w3) := HB2.out.trans (h3.mono HB2.out.size)
  clear x0 x1 x2 x3 y0 y1 k3 h3 HP2 HW2 HB2 hW hb1 hb2 KB
  clear W2 w1 w2
  have k4 := KP.out w3
  go_wp2_with fail
  refine k4.mono ?_
  rintro e w4 ⟨a4, c4, o4, d4, rfl, h4, r4, q4⟩
  have HP4 : Hid (PB w4.heap.size (two 16) a4 c4 (w4.alloc (.cells (pcmC (two 16) a4 c4) 37)) ∧ ChksAt (w4.alloc (.cells (pcmC (two 16) a4 c4) 37)) o4 (plainL (two 16)) ∧ PB b1 (two 16) a1 c1 (w4.alloc (.cells (pcmC (two 16) a4 c4) 37)) ∧ WB b2 riffT (plainL (two 16)) o2 c2 (w4.alloc (.cells (pcmC (two 16) a4 c4) 37)) ∧ Below w.heap.size w (w4.alloc (.cells (pcmC (two 16) a4 c4) 37))) :=
    ⟨PB.new r4 c4, q4.below (belA _ _), (HP3.out.next h4).next (belA _ _), (HW3.out.next h4).next (belA _ _), (HB3.out.trans (h4.mono HB3.out.size)).trans ((belA _ _).mono (HB3.out.trans (h4.mono HB3.out.size)).size)⟩
  have hsz4 : (w4.alloc (.cells (pcmC (two 16) a4 c4) 37)).heap.size = w4.heap.size + 1 := by simp
  clear k4 h4 r4 q4 HP3 HW3 HB3 KP
  have HP5 : Hid (PB w4.heap.size (two 16) a4 c4 ((w4.alloc (.cells (pcmC (two 16) a4 c4) 37)).alloc (.cells (waveC riffT (plainL (two 16)) o4 d4) 39)) ∧ WB (w4.heap.size + 1) riffT (plainL (two 16)) o4 d4 ((w4.alloc (.cells (pcmC (two 16) a4 c4) 37)).alloc (.cells (waveC riffT (plainL (two 16)) o4 d4) 39)) ∧ PB b1 (two 16) a1 c1 ((w4.alloc (.cells (pcmC (two 16) a4 c4) 37)).alloc (.cells (waveC riffT (plainL (two 16)) o4 d4) 39)) ∧ WB b2 riffT (plainL (two 16)) o2 c2 ((w4.alloc (.cells (pcmC (two 16) a4 c4) 37)).alloc (.cells (waveC riffT (plainL (two 16)) o4 d4) 39)) ∧ Below w.heap.size w ((w4.alloc (.cells (pcmC (two 16) a4 c4) 37)).alloc (.cells (waveC riffT (plainL (two 16)) o4 d4) 39))) :=
    ⟨HP4.out.1.next (belA _ _), by rw [← hsz4]; exact WB.new HP4.out.2.1 d4, HP4.out.2.2.1.next (belA _ _), HP4.out.2.2.2.1.next (belA _ _), HP4.out.2.2.2.2.trans ((belA _ _).mono HP4.out.2.2.2.2.size)⟩
  clear HP4 hsz4
  have k5 := KX.out ((w4.alloc (.cells (pcmC (two 16) a4 c4) 37)).alloc (.cells (waveC riffT (plainL (two 16)) o4 d4) 39))
  have hcat : ¬ (9223372036854775807 < S.size + 1) := by rw [HS.out.1]; decide
  have HSZ : Hid (S.size = 48) := HS.out.1
  go_wp2_with fail
  refine k5.mono ?_
  rintro e w6 ⟨a6, c6, o6, d6, rfl, h6⟩
  generalize hb3 : w4.heap.size = b3 at *
  have HP6 : Hid (PB b3 (two 16) a4 c4 w6 ∧ WB (b3 + 1) riffT (plainL (two 16)) o4 d4 w6 ∧ PB b1 (two 16) a1 c1 w6 ∧ WB b2 riffT (plainL (two 16)) o2 c2 w6 ∧ Below w.heap.size w w6) :=
    ⟨HP5.out.1.next h6, HP5.out.2.1.next h6, HP5.out.2.2.1.next h6, HP5.out.2.2.2.1.next h6, HP5.out.2.2.2.2.trans (h6.mono HP5.out.2.2.2.2.size)⟩
  clear k5 h6 HP5 hb3 hcat KX
  clear w4
  have HP7 : Hid (Below w6.heap.size w6 ((w6.alloc (.cells (pcmC ⟨0, 0, 0, []⟩ a6 c6) 37)).alloc (.cells (waveC ⟨#[]⟩ [] o6 d6) 39))) := (belA _ _).trans ((belA _ _).mono (belA _ _).size)
  have k7 := Chunks10 ((w6.alloc (.cells (pcmC ⟨0, 0, 0, []⟩ a6 c6) 37)).alloc (.cells (waveC ⟨#[]⟩ [] o6 d6) 39))
  go_wp2_with fail
  refine k7.mono ?_
  rintro e w8 ⟨cb, off, cap, rfl, h8, hx⟩
  have HX : Hid (∀ wx, Below w8.heap.size w8 wx → wx.cell? ⟨cb, off, none⟩ = some (.string ⟨#[97, 98, 99, 100]⟩) ∧ wx.cell? ⟨cb, off + 1, none⟩ = some (.string ⟨#[122]⟩) ∧ wx.cell? ⟨cb, off + 2, none⟩ = some (.int .i64 7)) := hx
  have h68 : Below w6.heap.size w6 w8 := HP7.out.trans (h8.mono HP7.out.size)
  have HP8 : Hid (PB b3 (two 16) a4 c4 w8 ∧ WB (b3 + 1) riffT (plainL (two 16)) o4 d4 w8 ∧ PB b1 (two 16) a1 c1 w8 ∧ WB b2 riffT (plainL (two 16)) o2 c2 w8 ∧ Below w.heap.size w w8) :=
    ⟨HP6.out.1.next h68, HP6.out.2.1.next h68, HP6.out.2.2.1.next h68, HP6.out.2.2.2.1.next h68, HP6.out.2.2.2.2.trans (h68.mono HP6.out.2.2.2.2.size)⟩
  clear k7 hx h8 h68 HP7 HP6
  have hS := HS.out.1
  have hS4 : (S.extract 0 4).toList = [82, 73, 70, 70] := by rw [HS.out.2]; exact riff_list
  have k9 := same16 a1 a4 c1 c4 w8 HP8.out.2.2.1.rows HP8.out.1.rows
  have x0 := HP8.out.2.2.1.p 0 _ rfl
  have z0 := HP8.out.1.p 0 _ rfl
  have x1 := HP8.out.2.2.1.p 1 _ rfl
  have z1 := HP8.out.1.p 1 _ rfl
  have x2 := HP8.out.2.2.1.p 2 _ rfl
  have z2 := HP8.out.1.p 2 _ rfl
  have x3 := HP8.out.2.2.1.p 3 _ rfl
  have z3 := HP8.out.1.p 3 _ rfl
  go_wp2_with fail
  refine k9.mono ?_
  rintro e w9 ⟨rfl, h9⟩
  have HP9 : Hid (WB (b3 + 1) riffT (plainL (two 16)) o4 d4 w9 ∧ WB b2 riffT (plainL (two 16)) o2 c2 w9 ∧ Below w.heap.size w w9 ∧ Below w8.heap.size w8 w9) := ⟨HP8.out.2.1.next h9, HP8.out.2.2.2.1.next h9, HP8.out.2.2.2.2.trans (h9.mono HP8.out.2.2.2.2.size), h9⟩
  clear k9 h9 HP8 x0 x1 x2 x3 z0 z1 z2 z3
  have k10 := sameW_spec riffT (plainL (two 16)) (by decide) o2 o4 c2 d4 w9 HP9.out.2.1.chks HP9.out.1.chks
  have y0 := HP9.out.2.1.p 0 _ rfl
  have y1 := HP9.out.2.1.p 1 _ rfl
  have z0 := HP9.out.1.p 0 _ rfl
  have z1 := HP9.out.1.p 1 _ rfl
  go_wp2_with fail
  refine k10.mono ?_
  rintro e w10 ⟨rfl, h10⟩
  obtain ⟨v0, v1, v2⟩ := HX.out w10 (HP9.out.2.2.2.trans (h10.mono HP9.out.2.2.2.size))
  have HB : Hid (Below w.heap.size w w10) := HP9.out.2.2.1.trans (h10.mono HP9.out.2.2.1.size)
  have heq := eql_k10
  clear k10 h10 HP9 y0 y1 z0 z1 HX
  go_wp2_with fail
  go_ret
  exact ⟨rfl, HB.out⟩

end Go.Proofs.YtfnkdahocehilaaGreat
