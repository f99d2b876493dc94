/- Own text: the walk of awake (aiff). -/
import Derived.Test.YtaepgjheknkojaaGreatG43x
import Derived.Test.YtaepgjheknkojaaGreatG5x
import Derived.Deep.CutRange
import Derived.Deep.RegionWith
namespace Go.Proofs.YtaepgjheknkojaaGreat
open Go.RowKit
set_option linter.unusedSimpArgs false
set_option linter.unusedVariables false

/-- A box of samples. -/
structure PB (b : Nat) (p : Pcm) (o : Option Addr) (c : Nat) (w : World) : Prop where
  box : w.heap[b]? = some (.cells (pcmC p o c) 24 (0, 0))
  rows : RowsAt w o p.pl
theorem PB.next {b : Nat} {p : Pcm} {o : Option Addr} {c : Nat} {w w' : World} (h : PB b p o c w) (hB : Below w.heap.size w w') : PB b p o c w' := ⟨(hB.block _ (lt_of_block h.box)).trans h.box, h.rows.below hB⟩
theorem PB.p {b : Nat} {p : Pcm} {o : Option Addr} {c : Nat} {w : World} (h : PB b p o c w) (j : Nat) (v : Value) (hv : (pcmC p o c)[j]? = some v) : w.cell? ⟨b, j, none⟩ = some v := by rw [cell_of_row _ _ _ _ _ _ h.box]; exact hv
theorem PB.new {p : Pcm} {o : Option Addr} {w : World} (h : RowsAt w o p.pl) (c : Nat) : PB w.heap.size p o c (w.alloc (.cells (pcmC p o c) 24)) := ⟨heap_alloc_new w _, h.below ((Below.refl _ _).alloc (Nat.le_refl _) _)⟩
/-- A box of a skeleton. -/
structure WB (b : Nat) (f : ByteArray) (l : List Chk) (o : Option Addr) (c : Nat) (w : World) : Prop where
  box : w.heap[b]? = some (.cells (waveC f l o c) 27 (0, 0))
  chks : ChksAt w o l
theorem WB.next {b : Nat} {f : ByteArray} {l : List Chk} {o : Option Addr} {c : Nat} {w w' : World} (h : WB b f l o c w) (hB : Below w.heap.size w w') : WB b f l o c w' := ⟨(hB.block _ (lt_of_block h.box)).trans h.box, h.chks.below hB⟩
theorem WB.p {b : Nat} {f : ByteArray} {l : List Chk} {o : Option Addr} {c : Nat} {w : World} (h : WB b f l o c w) (j : Nat) (v : Value) (hv : (waveC f l o c)[j]? = some v) : w.cell? ⟨b, j, none⟩ = some v := by rw [cell_of_row _ _ _ _ _ _ h.box]; exact hv
theorem WB.new {f : ByteArray} {l : List Chk} {o : Option Addr} {w : World} (h : ChksAt w o l) (c : Nat) : WB w.heap.size f l o c (w.alloc (.cells (waveC f l o c) 27)) := ⟨heap_alloc_new w _, h.below ((Below.refl _ _).alloc (Nat.le_refl _) _)⟩

/-- Taking awake's text apart. -/
theorem Parse58 (w : World) : Calls Tryz.prog 6 #[.string s58] w fun e w' => ∃ po pc wo wc, e = .returned (.tuple #[pcmV (two 16) po pc, .agg (waveC aiffT (pl7L (two 16)) wo wc), .int .i64 0]) ∧ Below w.heap.size w w' ∧ RowsAt w' po (two 16).pl ∧ ChksAt w' wo (pl7L (two 16)) := by
  obtain ⟨h1, _, h4, h5, h6, h7, _⟩ := s58_parts
  refine (Parse7_spec s58 w (by omega)).mono fun e w' h => ?_
  obtain ⟨q, po, pc, wf, l, wo, wc, e1, hB, hr, hc, hy, _⟩ := h
  obtain ⟨y1, y2, y3⟩ := hy h4
  rw [h5] at y1
  rw [h6] at y2
  rw [h7] at y3
  subst y1
  subst y2
  subst y3
  rw [h4] at e1
  exact ⟨po, pc, wo, wc, e1, hB, hr, hc⟩
theorem ParseH (w : World) : Calls Tryz.prog 6 #[.string ⟨#[104, 101, 108, 108, 111]⟩] w fun e w' => ∃ po pc wo wc, e = .returned (.tuple #[pcmV ⟨0, 0, 0, []⟩ po pc, .agg (waveC ⟨#[]⟩ [] wo wc), .int .i64 3]) ∧ Below w.heap.size w w' := by
  refine (Parse7_spec _ w (by decide)).mono fun e w' h => ?_
  obtain ⟨q, po, pc, wf, l, wo, wc, e1, hB, hr, hc, _, hn⟩ := h
  obtain ⟨y1, y2, y3⟩ := hn (by rw [hello_E]; decide)
  subst y1
  subst y2
  subst y3
  rw [hello_E] at e1
  exact ⟨po, pc, wo, wc, e1, hB⟩
theorem Build58 (po : Option Addr) (pc : Nat) (wo : Option Addr) (wq : Nat) (w : World) (hr : RowsAt w po (two 16).pl) (hl : ChksAt w wo (pl7L (two 16))) : Calls Tryz.prog 11 #[pcmV (two 16) po pc, .agg (waveC aiffT (pl7L (two 16)) wo wq)] w fun e w' => e = .returned (.tuple #[.string s58, .int .i64 0]) ∧ Below w.heap.size w w' := by
  obtain ⟨f1, f2⟩ := fair_plain7 _ fits16_7
  have h := Build7_spec (two 16) po pc aiffT (pl7L (two 16)) wo wq w hr hl f1 (by omega) (by decide)
  rw [s58_parts.2.2.2.2.2.2] at h
  exact h
theorem Plain58 (po : Option Addr) (pc : Nat) (w : World) (hr : RowsAt w po (two 16).pl) : Calls Tryz.prog 13 #[pcmV (two 16) po pc] w fun e w' => ∃ wo wc, e = .returned (.agg (waveC aiffT (pl7L (two 16)) wo wc)) ∧ ChksAt w' wo (pl7L (two 16)) ∧ Below w.heap.size w w' := by
  have h := Plain7_spec (two 16) po pc w hr
  refine h.mono fun e w' h => ?_
  obtain ⟨wo, wc, e1, h2, h3⟩ := h
  rw [(pl7_eq _ fits16_7).2] at e1
  exact ⟨wo, wc, e1, h2, h3⟩
theorem same16 (a b : Option Addr) (c d : Nat) (w : World) (h1 : RowsAt w a (two 16).pl) (h2 : RowsAt w b (two 16).pl) : Calls Tryz.prog 8 #[pcmV (two 16) a c, pcmV (two 16) b d] w fun e w' => e = .returned (.bool true) ∧ Below w.heap.size w w' := by
  have h := rsame_spec (two 16) (two 16) a b c d w h1 h2
  rw [sameB_refl] at h
  exact h
theorem sameA_spec (f : ByteArray) (l : List Chk) (hll : l.length ≤ 9000000000000000) (a b : Option Addr) (c d : Nat) (w : World) (h1 : ChksAt w a l) (h2 : ChksAt w b l) : Calls Tryz.prog 9 #[.agg (waveC f l a c), .agg (waveC f l b d)] w fun e w' => e = .returned (.bool true) ∧ Below w.heap.size w w' := by
  have h := r7same_spec f f l l a b c d w h1 h2 hll
  rw [sameA_refl] at h
  exact h

set_option maxRecDepth 20000 in
set_option maxHeartbeats 6400000 in
theorem awake7_spec (w : World) : Calls Tryz.prog 10 #[] w fun e w' => e = .returned (.bool true) ∧ Below w.heap.size w w' := by
  have HS : Hid (s58.size = 58 ∧ s58.extract 0 4 = formT) := ⟨s58_parts.1, s58_parts.2.1⟩
  have KB : Hid (∀ po pc wo wq wx, RowsAt wx po (two 16).pl → ChksAt wx wo (pl7L (two 16)) → Calls Tryz.prog 11 #[pcmV (two 16) po pc, .agg (waveC aiffT (pl7L (two 16)) wo wq)] wx fun e w' => e = .returned (.tuple #[.string s58, .int .i64 0]) ∧ Below wx.heap.size wx w') := Build58
  have KP : Hid (∀ wx, Calls Tryz.prog 6 #[.string s58] wx fun e w' => ∃ po pc wo wc, e = .returned (.tuple #[pcmV (two 16) po pc, .agg (waveC aiffT (pl7L (two 16)) wo wc), .int .i64 0]) ∧ Below wx.heap.size wx w' ∧ RowsAt w' po (two 16).pl ∧ ChksAt w' wo (pl7L (two 16))) := Parse58
  have KX : Hid (∀ wx, Calls Tryz.prog 6 #[.string ⟨#[104, 101, 108, 108, 111]⟩] wx fun e w' => ∃ po pc wo wc, e = .returned (.tuple #[pcmV ⟨0, 0, 0, []⟩ po pc, .agg (waveC ⟨#[]⟩ [] wo wc), .int .i64 3]) ∧ Below wx.heap.size wx w') := ParseH
  have KPL : Hid (∀ po pc wx, RowsAt wx po (two 16).pl → Calls Tryz.prog 13 #[pcmV (two 16) po pc] wx fun e w' => ∃ wo wc, e = .returned (.agg (waveC aiffT (pl7L (two 16)) wo wc)) ∧ ChksAt w' wo (pl7L (two 16)) ∧ Below wx.heap.size wx w') := Plain58
  have HLL : Hid ((pl7L (two 16)).length ≤ 9000000000000000) := by show _ ≤ _; rw [(fair_plain7 _ fits16_7).2]; decide
  generalize s58 = S at *
  generalize pl7L (two 16) = L2 at *
  have kt := two_spec 16 w
  go_enter Tryz.func10, Tryz.ntmps10
  go_wp2_with fail
  refine kt.mono ?_
  rintro e w1 ⟨a1, c1, rfl, r1, h1⟩
  have HP1 : Hid (PB w1.heap.size (two 16) a1 c1 (w1.alloc (.cells (pcmC (two 16) a1 c1) 24))) := PB.new r1 c1
  have HB1 : Hid (Below w.heap.size w (w1.alloc (.cells (pcmC (two 16) a1 c1) 24))) := h1.trans ((belA _ _).mono h1.size)
  have k2 := KPL.out a1 c1 _ HP1.out.rows
  generalize hW : w1.alloc (.cells (pcmC (two 16) a1 c1) 24) = W1 at *
  clear kt r1 h1
  have x0 := HP1.out.p 0 _ rfl
  have x1 := HP1.out.p 1 _ rfl
  have x2 := HP1.out.p 2 _ rfl
  have x3 := HP1.out.p 3 _ rfl
  go_wp2_with fail
  refine k2.mono ?_
  rintro e w2 ⟨o2, c2, rfl, q2, h2⟩
  have HW2 : Hid (WB w2.heap.size aiffT (L2) o2 c2 (w2.alloc (.cells (waveC aiffT L2 o2 c2) 27))) := WB.new q2 c2
  have HP2 : Hid (PB w1.heap.size (two 16) a1 c1 (w2.alloc (.cells (waveC aiffT L2 o2 c2) 27))) := (HP1.out.next h2).next (belA _ _)
  have HB2 : Hid (Below w.heap.size w (w2.alloc (.cells (waveC aiffT L2 o2 c2) 27))) := (HB1.out.trans (h2.mono HB1.out.size)).trans ((belA _ _).mono (HB1.out.trans (h2.mono HB1.out.size)).size)
  clear x0 x1 x2 x3 k2 q2 h2 HP1 HB1 hW
  generalize hW : w2.alloc (.cells (waveC aiffT L2 o2 c2) 27) = W2 at *
  generalize hb1 : w1.heap.size = b1 at *
  generalize hb2 : w2.heap.size = b2 at *
  have k3 := KB.out a1 c1 o2 c2 W2 HP2.out.rows HW2.out.chks
  have x0 := HP2.out.p 0 _ rfl
  have x1 := HP2.out.p 1 _ rfl
  have x2 := HP2.out.p 2 _ rfl
  have x3 := HP2.out.p 3 _ rfl
  have y0 := HW2.out.p 0 _ rfl
  have y1 := HW2.out.p 1 _ rfl
  go_wp2_with fail
  refine k3.mono ?_
  rintro e w3 ⟨rfl, h3⟩
  have HP3 : Hid (PB b1 (two 16) a1 c1 w3) := HP2.out.next h3
  have HW3 : Hid (WB b2 aiffT (L2) o2 c2 w3) := HW2.out.next h3
  have HB3 : Hid (Below w.heap.size w w3) := HB2.out.trans (h3.mono HB2.out.size)
  clear x0 x1 x2 x3 y0 y1 k3 h3 HP2 HW2 HB2 hW hb1 hb2 KB
  clear W2 w1 w2
  have k4 := KP.out w3
  go_wp2_with fail
  refine k4.mono ?_
  rintro e w4 ⟨a4, c4, o4, d4, rfl, h4, r4, q4⟩
  have HP4 : Hid (PB w4.heap.size (two 16) a4 c4 (w4.alloc (.cells (pcmC (two 16) a4 c4) 24)) ∧ ChksAt (w4.alloc (.cells (pcmC (two 16) a4 c4) 24)) o4 (L2) ∧ PB b1 (two 16) a1 c1 (w4.alloc (.cells (pcmC (two 16) a4 c4) 24)) ∧ WB b2 aiffT (L2) o2 c2 (w4.alloc (.cells (pcmC (two 16) a4 c4) 24)) ∧ Below w.heap.size w (w4.alloc (.cells (pcmC (two 16) a4 c4) 24))) :=
    ⟨PB.new r4 c4, q4.below (belA _ _), (HP3.out.next h4).next (belA _ _), (HW3.out.next h4).next (belA _ _), (HB3.out.trans (h4.mono HB3.out.size)).trans ((belA _ _).mono (HB3.out.trans (h4.mono HB3.out.size)).size)⟩
  have hsz4 : (w4.alloc (.cells (pcmC (two 16) a4 c4) 24)).heap.size = w4.heap.size + 1 := by simp
  clear k4 h4 r4 q4 HP3 HW3 HB3 KP
  have HP5 : Hid (PB w4.heap.size (two 16) a4 c4 ((w4.alloc (.cells (pcmC (two 16) a4 c4) 24)).alloc (.cells (waveC aiffT L2 o4 d4) 27)) ∧ WB (w4.heap.size + 1) aiffT (L2) o4 d4 ((w4.alloc (.cells (pcmC (two 16) a4 c4) 24)).alloc (.cells (waveC aiffT L2 o4 d4) 27)) ∧ PB b1 (two 16) a1 c1 ((w4.alloc (.cells (pcmC (two 16) a4 c4) 24)).alloc (.cells (waveC aiffT L2 o4 d4) 27)) ∧ WB b2 aiffT (L2) o2 c2 ((w4.alloc (.cells (pcmC (two 16) a4 c4) 24)).alloc (.cells (waveC aiffT L2 o4 d4) 27)) ∧ Below w.heap.size w ((w4.alloc (.cells (pcmC (two 16) a4 c4) 24)).alloc (.cells (waveC aiffT L2 o4 d4) 27))) :=
    ⟨HP4.out.1.next (belA _ _), by rw [← hsz4]; exact WB.new HP4.out.2.1 d4, HP4.out.2.2.1.next (belA _ _), HP4.out.2.2.2.1.next (belA _ _), HP4.out.2.2.2.2.trans ((belA _ _).mono HP4.out.2.2.2.2.size)⟩
  clear HP4 hsz4
  have k5 := KX.out ((w4.alloc (.cells (pcmC (two 16) a4 c4) 24)).alloc (.cells (waveC aiffT L2 o4 d4) 27))
  have HSZ : Hid (S.size = 58) := HS.out.1
  go_wp2_with fail
  refine k5.mono ?_
  rintro e w6 ⟨a6, c6, o6, d6, rfl, h6⟩
  generalize hb3 : w4.heap.size = b3 at *
  have HP6 : Hid (PB b3 (two 16) a4 c4 w6 ∧ WB (b3 + 1) aiffT (L2) o4 d4 w6 ∧ PB b1 (two 16) a1 c1 w6 ∧ WB b2 aiffT (L2) o2 c2 w6 ∧ Below w.heap.size w w6) :=
    ⟨HP5.out.1.next h6, HP5.out.2.1.next h6, HP5.out.2.2.1.next h6, HP5.out.2.2.2.1.next h6, HP5.out.2.2.2.2.trans (h6.mono HP5.out.2.2.2.2.size)⟩
  clear k5 h6 HP5 hb3 KX
  clear w4
  have HP7 : Hid (Below w6.heap.size w6 ((w6.alloc (.cells (pcmC ⟨0, 0, 0, []⟩ a6 c6) 24)).alloc (.cells (waveC ⟨#[]⟩ [] o6 d6) 27))) := (belA _ _).trans ((belA _ _).mono (belA _ _).size)
  go_upto_region 6 with fail
  generalize hw8 : World.alloc (World.alloc w6 _) _ = w8
  have h68 : Below w6.heap.size w6 w8 := by rw [← hw8]; exact HP7.out
  have HP8 : Hid (PB b3 (two 16) a4 c4 w8 ∧ WB (b3 + 1) aiffT L2 o4 d4 w8 ∧ PB b1 (two 16) a1 c1 w8 ∧ WB b2 aiffT L2 o2 c2 w8 ∧ Below w.heap.size w w8) :=
    ⟨HP6.out.1.next h68, HP6.out.2.1.next h68, HP6.out.2.2.1.next h68, HP6.out.2.2.2.1.next h68, HP6.out.2.2.2.2.trans (h68.mono HP6.out.2.2.2.2.size)⟩
  clear hw8 h68 HP7 HP6
  have hS := HS.out.1
  have hS4 : (S.extract 0 4).toList = [70, 79, 82, 77] := by rw [HS.out.2]; exact form_list
  have k9 := same16 a1 a4 c1 c4 w8 HP8.out.2.2.1.rows HP8.out.1.rows
  have x0 := HP8.out.2.2.1.p 0 _ rfl
  have z0 := HP8.out.1.p 0 _ rfl
  have x1 := HP8.out.2.2.1.p 1 _ rfl
  have z1 := HP8.out.1.p 1 _ rfl
  have x2 := HP8.out.2.2.1.p 2 _ rfl
  have z2 := HP8.out.1.p 2 _ rfl
  have x3 := HP8.out.2.2.1.p 3 _ rfl
  have z3 := HP8.out.1.p 3 _ rfl
  go_wp2_with fail
  refine k9.mono ?_
  rintro e w9 ⟨rfl, h9⟩
  have HP9 : Hid (WB (b3 + 1) aiffT (L2) o4 d4 w9 ∧ WB b2 aiffT (L2) o2 c2 w9 ∧ Below w.heap.size w w9 ∧ Below w8.heap.size w8 w9) := ⟨HP8.out.2.1.next h9, HP8.out.2.2.2.1.next h9, HP8.out.2.2.2.2.trans (h9.mono HP8.out.2.2.2.2.size), h9⟩
  clear k9 h9 HP8 x0 x1 x2 x3 z0 z1 z2 z3
  have k10 := sameA_spec aiffT L2 HLL.out o2 o4 c2 d4 w9 HP9.out.2.1.chks HP9.out.1.chks
  have y0 := HP9.out.2.1.p 0 _ rfl
  have y1 := HP9.out.2.1.p 1 _ rfl
  have z0 := HP9.out.1.p 0 _ rfl
  have z1 := HP9.out.1.p 1 _ rfl
  go_wp2_with fail
  refine k10.mono ?_
  rintro e w10 ⟨rfl, h10⟩
  have HB : Hid (Below w.heap.size w w10) := HP9.out.2.2.1.trans (h10.mono HP9.out.2.2.1.size)
  clear k10 h10 HP9 y0 y1 z0 z1
  go_wp2_with fail
  go_ret
  exact ⟨rfl, HB.out⟩

end Go.Proofs.YtaepgjheknkojaaGreat
