/- Own text. -/
import Derived.Test.YthgpleelpeacjaaGreatDoorE6
set_option linter.unusedSimpArgs false
set_option linter.unusedVariables false
set_option maxRecDepth 20000
set_option maxHeartbeats 12800000
namespace Go.Proofs.YthgpleelpeacjaaGreatDoor
open Go.RowKit
theorem partL_spec (l : List Int) (b o r i : Nat) (h : Cut b o r) (hi : i < 2 ^ o) (ao : Option Addr) (cap : Nat) (hn : l.length = b - r) (hc : l.length ≤ cap) (h0 : ao = none → cap = 0) (P : Int) (w : World) (hl : IntsAt w ao l) :
  Calls Tryz.prog 184 #[cutV P ((b / 2 ^ o : Nat) : Int) (r : Int), .slice ao l.length cap, .int .i64 (i : Int)] w fun e w' => ∃ xo, e = .returned (.slice xo (partN l b o r i).length (partN l b o r i).length) ∧ Below w.heap.size w w' ∧ IntsAt w' xo (partN l b o r i) ∧ (∀ bb, blockOf xo = some bb → blockOf ao = some bb) ∧ (∀ bb off, ao = some ⟨bb, off, none⟩ → 0 < (partN l b o r i).length → xo = some ⟨bb, off + frN b o r i, none⟩) := by
 have hlen := partN_length l h hn i hi
 refine (part_spec b o r i h hi ao l.length cap hn hc h0 P w).mono ?_
 rintro e w' ⟨xo, rfl, hb, h1, h2, h3⟩
 rw [hlen]
 refine ⟨xo, rfl, hb, ?_, h3, h2⟩
 refine (hl.below hb).part _ _ ?_ xo h2
 have := frN_bound h (i + 1) hi; have := frN_mono b o r i
 omega
theorem fit_coded (x : Int) (k : Int) (h0 : 0 ≤ k) (h1 : k ≤ 30) (h : foldN x / 2 ^ k.toNat ≤ 16777216) : fitE k (-1) x := by
 unfold fitE rcwE; rw [if_pos rfl, if_pos ⟨h0, h1, h⟩]
theorem coded_fit (x : Int) (k : Int) (h : fitE k (-1) x) : foldN x / 2 ^ k.toNat ≤ 16777216 := by
 unfold fitE rcwE at h
 rw [if_pos rfl] at h
 split at h
 ·rename_i hc; exact hc.2.2
 ·cases h
structure Rok (c : Rc) (b o r : Nat) : Prop where
 cut : Cut b o r
 ho : c.o = o
 m0 : 0 ≤ c.m
 m1 : c.m ≤ 1
 lP : c.P.length = 2 ^ o
 lE : c.E.length = 2 ^ o
 may : allMay c.m c.P c.E (2 ^ o)
theorem Rok.of {c : Rc} {b r : Int} (h : chkOk c b r) : ∃ b' r' o' : Nat, b = b' ∧ r = r' ∧ Rok c b' o' r' := by
 obtain ⟨b', r', o', e1, e2, e3, hc⟩ := Cut.of h.2.1
 have e4 : c.o.toNat = o' := by omega
 have h3 := h.2.2
 rw [e4] at h3
 exact ⟨b', r', o', e1, e2, hc, e3, h.1.1, h.1.2, h3.1, h3.2.1, h3.2.2⟩
theorem Rok.chk {c : Rc} {b o r : Nat} (h : Rok c b o r) : chkOk c b r := by
 have e4 : c.o.toNat = o := by have := h.ho; omega
 refine ⟨⟨h.m0, h.m1⟩, by rw [h.ho]; exact h.cut.ok, ?_⟩
 rw [e4]
 exact ⟨h.lP, h.lE, h.may⟩
theorem Rok.row {c : Rc} {b o r : Nat} (h : Rok c b o r) (j : Nat) (hj : j < 2 ^ o) : (c.E.getD j 0 = -1 ∧ 0 ≤ c.P.getD j 0 ∧ c.P.getD j 0 ≤ 30) ∨ (0 ≤ c.E.getD j 0 ∧ c.E.getD j 0 ≤ 31 ∧ c.P.getD j 0 = 0) := by
 have := h.may j hj; have := h.m1
 unfold mayOk at this
 rcases h.may j hj with h1 | h1
 ·left; exact ⟨h1.1, h1.2.1, by omega⟩
 ·right; exact h1
def fitB (c : Rc) (b o r : Nat) (l : List Int) : Bool := decide (l.length = b - r) && (List.range (2 ^ o)).all (fun i => allT (c.P.getD i 0) (c.E.getD i 0) (partN l b o r i))
theorem fitB_iff (c : Rc) (b o r : Nat) (l : List Int) : fitB c b o r l = true ↔ l.length = b - r ∧ allFit c b o r l (2 ^ o) := by
 unfold fitB allFit
 rw [Bool.and_eq_true_iff, List.all_eq_true, decide_eq_true_iff]
 exact ⟨fun h => ⟨h.1, fun i hi => (allT_iff _ _ _).1 (h.2 i (List.mem_range.2 hi))⟩, fun h => ⟨h.1, fun i hi => (allT_iff _ _ _).2 (h.2 i (List.mem_range.1 hi))⟩⟩
theorem fitB_yes {c : Rc} {b o r : Nat} {l : List Int} (h : l.length = b - r ∧ allFit c b o r l (2 ^ o)) : fitB c b o r l = true := (fitB_iff c b o r l).2 h
theorem fitB_no {c : Rc} {b o r : Nat} {l : List Int} (h : ¬ (l.length = b - r ∧ allFit c b o r l (2 ^ o))) : fitB c b o r l = false := bool_no (fitB_iff c b o r l) h
theorem fit_spec (c : Rc) (b o r : Nat) (l : List Int) (h : Rok c b o r) (hs : ShX l) (pa : Option Addr) (pc : Nat) (ea : Option Addr) (ec : Nat) (ao : Option Addr) (cap : Nat) (hc : l.length ≤ cap) (h0 : ao = none → cap = 0) (w : World) (hr : RcAt w c pa ea) (hl : IntsAt w ao l) :
  Calls Tryz.prog 181 #[riceV c pa pc ea ec, cutV ((2 ^ o : Nat) : Int) ((b / 2 ^ o : Nat) : Int) (r : Int), .slice ao l.length cap] w fun en w' => en = .returned (.bool (fitB c b o r l)) ∧ Below w.heap.size w w' := by
 have HR : Hid (RcAt w c pa ea) := hr
 have HL : Hid (IntsAt w ao l) := hl
 have HS : Hid (ShX l) := hs
 have HK : Hid (Rok c b o r) := h
 have hp := pow15 o h.cut.o15
 have hdv := h.cut.dv
 have hr2 := h.cut.r2
 have hb2 := h.cut.b2
 have hrb := h.cut.rb
 have hd : b / 2 ^ o ≤ 65535 := by have := Nat.div_le_self b (2 ^ o); omega
 have hl5 := hs.2
 have KN : Hid (∀ wx, Calls Tryz.prog 191 #[cutV ((2 ^ o : Nat) : Int) ((b / 2 ^ o : Nat) : Int) (r : Int)] wx fun e w' => e = .returned (.int .i64 ((b - r : Nat) : Int)) ∧ Below wx.heap.size wx w') := fun wx => by
  have hh := count_spec (2 ^ o) (b / 2 ^ o) r (by omega) hr2 hp.2 hd wx
  rw [hdv] at hh
  refine hh.mono ?_
  rintro e w' ⟨rfl, hb⟩
  refine ⟨?_, hb⟩
  rw [show ((b - r : Nat) : Int) = (b : Int) - (r : Int) by omega]
 have KP : Hid (∀ i : Nat, i < 2 ^ o → l.length = b - r → ∀ wx, Below w.heap.size w wx → Calls Tryz.prog 184 #[cutV ((2 ^ o : Nat) : Int) ((b / 2 ^ o : Nat) : Int) (r : Int), .slice ao l.length cap, .int .i64 (i : Int)] wx fun e w' => ∃ xo, e = .returned (.slice xo (partN l b o r i).length (partN l b o r i).length) ∧ Below wx.heap.size wx w' ∧ IntsAt w' xo (partN l b o r i)) := fun i hi hn wx hbx =>
  (partL_spec l b o r i h.cut hi ao cap hn hc h0 _ wx (hl.below hbx)).mono fun e w' hh => by
   obtain ⟨xo, h1, h2, h3, _⟩ := hh
   exact ⟨xo, h1, h2, h3⟩
 have HSt : Hid (∀ p s f, CB w c pa pc ea ec (w.heap.size + 1) p s f ((w.alloc (.cells (riceC c pa pc ea ec) 25)).alloc (.cells #[.int .i64 p, .int .i64 s, .int .i64 f] 198))) := fun p s f => by
  have hh := CB.new (RB.new w c pa pc ea ec) p s f
  simpa using hh
 have HF : Hid (∀ i, i < 2 ^ o → (∃ x ∈ partN l b o r i, ¬ fitE (c.P.getD i 0) (c.E.getD i 0) x) → fitB c b o r l = false) := fun i hi hx => by
  obtain ⟨x, hx, hf⟩ := hx
  exact fitB_no (fun hh => hf (hh.2 i hi x hx))
 have HT : Hid (l.length = b - r → (∀ i, i < 2 ^ o → ∀ x ∈ partN l b o r i, fitE (c.P.getD i 0) (c.E.getD i 0) x) → fitB c b o r l = true) := fun h1 h2 => fitB_yes ⟨h1, h2⟩
 have HF0 : Hid (¬ l.length = b - r → fitB c b o r l = false) := fun h1 => fitB_no (fun hh => h1 hh.1)
 have hPl : c.P.length = 2 ^ o := h.lP
 have hEl : c.E.length = 2 ^ o := h.lE
 generalize hpn : 2 ^ o = N at *
 generalize b / N = d at *
 have HL1 : Hid (c.P.length = N) := hPl
 have HL2 : Hid (c.E.length = N) := hEl
 have hn32 := hp.2
 have HPN : Hid (2 ^ o = N) := hpn
 clear hPl hEl h hr hl hs hdv hpn
 by_cases hlen : l.length = b - r
 case neg =>
  have hbn : ((l.length : Int) != ((b - r : Nat) : Int)) = true := by rw [bne_iff_ne]; omega
  have HN : Hid (fitB c b o r l = false) := HF0.out hlen
  generalize hbr : b - r = br at *
  go_enter Tryz.func181, Tryz.ntmps181
  go_wp2_with fail
  refine (KN.out _).mono ?_
  rintro e w2 ⟨rfl, hb⟩
  have HW : Hid (CB w c pa pc ea ec (w.heap.size + 1) (N : Int) (d : Int) (r : Int) w2) := (HSt.out _ _ _).next hb
  clear hb
  go_wp2_with fail
  go_ret
  exact ⟨by rw [HN.out]; rfl, HW.out.rb.below⟩
 case pos =>
  have hbn : ((l.length : Int) != ((b - r : Nat) : Int)) = false := by rw [bne_eq_false_iff_eq]; omega
  have HLN : Hid (l.length = b - r) := hlen
  clear hlen
  generalize hbr : b - r = br at *
  go_enter Tryz.func181, Tryz.ntmps181
  go_wp2_with fail
  refine (KN.out _).mono ?_
  rintro e w2 ⟨rfl, hb⟩
  have HW : Hid (CB w c pa pc ea ec (w.heap.size + 1) (N : Int) (d : Int) (r : Int) w2) := (HSt.out _ _ _).next hb
  have y0 := HW.out.q0
  clear hb
  go_wp2_with fail
  clear y0
  go_loopw [7, 8, 16] (fun s7 s8 s16 wr => ∃ j : Nat, j ≤ N ∧ s16 = .int .i64 (j : Int) ∧ (∀ i, i < j → ∀ x ∈ partN l b o r i, fitE (c.P.getD i 0) (c.E.getD i 0) x) ∧ CB w c pa pc ea ec (w.heap.size + 1) (N : Int) (d : Int) (r : Int) wr) (fun _ _ s16 _ => N - (intOf s16).toNat)
  case atStart => exact ⟨0, Nat.zero_le _, rfl, fun i hi => absurd hi (Nat.not_lt_zero _), HW.out⟩
  case round =>
   clear HW
   obtain ⟨j, hj, rfl, hsj, hcb⟩ := hrel
   have HW : Hid (CB w c pa pc ea ec (w.heap.size + 1) (N : Int) (d : Int) (r : Int) wr) := hcb
   have HSJ : Hid (∀ i, i < j → ∀ x ∈ partN l b o r i, fitE (c.P.getD i 0) (c.E.getD i 0) x) := hsj
   clear hcb hsj
   by_cases hlt : j < N
   ·have hjP : j < c.P.length := by rw [HL1.out]; exact hlt
    have hjE : j < c.E.length := by rw [HL2.out]; exact hlt
    have z0 := HW.out.q0
    have z1 := HW.out.q1
    have z2 := HW.out.q2
    have kp := KP.out j hlt (by rw [HLN.out]) wr HW.out.rb.below
    have hrow := HK.out.row j (by rw [HPN.out]; exact hlt)
    obtain ⟨b1, o1, e1, q1⟩ := HR.out.P.at j hjP
    obtain ⟨b2, o2, e2, q2⟩ := HR.out.E.at j hjE
    have HSP : Hid (ShX (partN l b o r j)) := HS.out.part b o r j
    have HFJ : Hid ((∃ x ∈ partN l b o r j, ¬ fitE (c.P.getD j 0) (c.E.getD j 0) x) → fitB c b o r l = false) := HF.out j hlt
    have HGO : Hid ((∀ x ∈ partN l b o r j, fitE (c.P.getD j 0) (c.E.getD j 0) x) → ∀ i, i < j + 1 → ∀ x ∈ partN l b o r i, fitE (c.P.getD i 0) (c.E.getD i 0) x) := fun hx i hi => by
     by_cases e : i = j
     ·rw [e]; exact hx
     ·exact HSJ.out i (by omega)
    have HQ1 : Hid (∀ w' : World, Below w.heap.size w w' → w'.cell? ⟨b1, o1 + j, none⟩ = some (.int .i64 (c.P.getD j 0))) := q1
    have HQ2 : Hid (∀ w' : World, Below w.heap.size w w' → w'.cell? ⟨b2, o2 + j, none⟩ = some (.int .i64 (c.E.getD j 0))) := q2
    have HE1 : Hid (pa = some ⟨b1, o1, none⟩) := e1
    have HE2 : Hid (ea = some ⟨b2, o2, none⟩) := e2
    clear q1 q2 e1 e2
    generalize partN l b o r j = X at *
    generalize c.P.getD j 0 = kk at *
    generalize c.E.getD j 0 = ee at *
    go_wp2_with fail
    refine kp.mono ?_
    rintro e w3 ⟨xo, rfl, hb3, hX⟩
    have HW3 : Hid (CB w c pa pc ea ec (w.heap.size + 1) (N : Int) (d : Int) (r : Int) w3) := HW.out.next hb3
    have HX : Hid (IntsAt w3 xo X) := hX
    have x2 := HW3.out.rb.c2
    have x3 := HW3.out.rb.c3
    rw [HE1.out] at x2
    rw [HE2.out] at x3
    have r1 := HQ1.out w3 HW3.out.rb.below
    have r2 := HQ2.out w3 HW3.out.rb.below
    clear hb3 hX HW z0 z1 z2 HQ1 HQ2 kp
    rcases hrow with ⟨rfl, k0, k1⟩ | ⟨a0, a1, rfl⟩
    ·have kc := cost_spec X kk xo X.length HSP.out w3 HX.out
     cases hcd : codB X kk.toNat with
     | true =>
      have HCD : Hid (∀ x ∈ X, fitE kk (-1) x) := fun x hx => fit_coded x kk k0 k1 ((codB_iff X kk.toNat).1 hcd x hx)
      have hcv : ∃ q : Nat, costI X kk = (q : Int) := ⟨costN X kk.toNat, by unfold costI; rw [if_neg (by omega), if_pos hcd]⟩
      obtain ⟨q, hq⟩ := hcv
      rw [hq] at kc
      clear hq hcd
      go_wp2_with fail
      refine kc.mono ?_
      rintro e w4 ⟨rfl, n4, rfl⟩
      have HW4 : Hid (CB w c pa pc ea ec (w.heap.size + 1) (N : Int) (d : Int) (r : Int) (w3.drewN n4)) := HW3.out.drewN n4
      go_wp2_with fail
      go_roundw
      case rel => exact ⟨j + 1, by omega, by go_num, HGO.out HCD.out, HW4.out⟩
      case measure => simp [intOf]; omega
     | false =>
      have HN : Hid (fitB c b o r l = false) := HFJ.out (by
       apply Classical.byContradiction
       intro hno
       have hall : codB X kk.toNat = true := (codB_iff X kk.toNat).2 (fun x hx => Classical.byContradiction (fun hf => hno ⟨x, hx, fun hfe => hf (coded_fit x kk hfe)⟩))
       rw [hcd] at hall; cases hall)
      have hq : costI X kk = -1 := by unfold costI; rw [if_neg (by omega), if_neg (by rw [hcd]; decide)]
      rw [hq] at kc
      clear hq hcd
      go_wp2_with fail
      refine kc.mono ?_
      rintro e w4 ⟨rfl, n4, rfl⟩
      have HW4 : Hid (CB w c pa pc ea ec (w.heap.size + 1) (N : Int) (d : Int) (r : Int) (w3.drewN n4)) := HW3.out.drewN n4
      go_wp2_with fail
      go_ret
      exact ⟨by rw [HN.out]; rfl, HW4.out.rb.below⟩
    ·obtain ⟨en, rfl⟩ : ∃ en : Nat, ee = en := ⟨ee.toNat, by omega⟩
     have kw := areWithin_spec X en (by omega) xo X.length w3 HX.out
     have hbe : ((en : Int) == -1) = false := by rw [beq_eq_false_iff_ne]; omega
     have hbe2 : ((en : Int) != -1) = true := by rw [bne_iff_ne]; omega
     by_cases hx : ∀ x ∈ X, fitE 0 en x
     ·have HXX : Hid (∀ x ∈ X, fitE 0 en x) := hx
      rw [allT_yes hx] at kw
      clear hx
      go_wp2_with fail
      refine kw.mono ?_
      rintro e w4 ⟨rfl, n4, rfl⟩
      have HW4 : Hid (CB w c pa pc ea ec (w.heap.size + 1) (N : Int) (d : Int) (r : Int) (w3.drewN n4)) := HW3.out.drewN n4
      go_wp2_with fail
      go_roundw
      case rel => exact ⟨j + 1, by omega, by go_num, HGO.out HXX.out, HW4.out⟩
      case measure => simp [intOf]; omega
     ·have HN : Hid (fitB c b o r l = false) := HFJ.out (by
       apply Classical.byContradiction
       intro hno
       exact hx (fun x hx => Classical.byContradiction (fun hf => hno ⟨x, hx, hf⟩)))
      rw [allT_no hx] at kw
      clear hx
      go_wp2_with fail
      refine kw.mono ?_
      rintro e w4 ⟨rfl, n4, rfl⟩
      have HW4 : Hid (CB w c pa pc ea ec (w.heap.size + 1) (N : Int) (d : Int) (r : Int) (w3.drewN n4)) := HW3.out.drewN n4
      go_wp2_with fail
      go_ret
      exact ⟨by rw [HN.out]; rfl, HW4.out.rb.below⟩
   ·have HN : Hid (fitB c b o r l = true) := HT.out (by rw [HLN.out]) (fun i hi => HSJ.out i (by omega))
    go_wp2_with fail
    go_ret
    exact ⟨by rw [HN.out]; rfl, HW.out.rb.below⟩
def Apart (p : Nat) (ao xo : Option Addr) (l : List Int) : Prop := 0 < l.length → ∀ b, blockOf xo = some b → ¬ foot p ao b
theorem IntsAt.none_ {w w' : World} {xo : Option Addr} {l : List Int} (h : IntsAt w xo l) (h0 : ¬ 0 < l.length) : IntsAt w' xo l := ⟨h.len, h.num, fun hh => absurd hh h0⟩
theorem Apart.moved {p : Nat} {ao aj xo : Option Addr} {l : List Int} {w : World} (ha : Apart p ao xo l) (hx : IntsAt w xo l) (hm : Moved w.heap.size ao aj) : Apart p aj xo l := fun h0 b hb hf => by
 rcases hf with hf | hf
 ·exact ha h0 b hb (Or.inl hf)
 ·rcases hm b hf with h1 | h1
  ·exact ha h0 b hb (Or.inr h1)
  ·obtain ⟨bb, off, rfl, hc⟩ := hx.lies h0
   have hbb : bb = b := by simpa [blockOf] using hb
   have h2 : bb < w.heap.size := lt_cell (hc 0 h0)
   omega
theorem Apart.part {p : Nat} {ao lo xo : Option Addr} {l X : List Int} (ha : Apart p ao lo l) (hx : ∀ b, blockOf xo = some b → blockOf lo = some b) (hl : 0 < X.length → 0 < l.length) : Apart p ao xo X := fun h0 b hb => ha (hl h0) b (hx b hb)
structure WB (w : World) (p : Nat) (ao0 ao : Option Addr) (B : List Nat) (K : Nat) (wx : World) : Prop where
 wr : WrB wx p ao B
 st : Stays (foot p ao0) w wx
 mv : Moved w.heap.size ao0 ao
 hp : p < w.heap.size
 nb : ∀ b, blockOf ao = some b → ¬ (w.heap.size ≤ b ∧ b < K)
 kk : K ≤ wx.heap.size
section
variable {w wx w' : World} {p : Nat} {ao0 ao ao' : Option Addr} {B B' : List Nat} {K : Nat}
theorem WB.start (hw : WrB w p ao B) (hb : Below w.heap.size w wx) (K : Nat) (hK : K ≤ wx.heap.size) : WB w p ao ao B K wx :=
 ⟨hw.below hb, Stays.of_below hb _, Moved.refl _ _, hw.lt, fun b hb' h => by have := hw.blocks b hb'; omega, hK⟩
theorem WB.low (h : WB w p ao0 ao B K wx) (hb : Below wx.heap.size wx w') : WB w p ao0 ao B K w' :=
 ⟨h.wr.below hb, h.st.trans (Stays.of_below hb (foot p ao0)) (fun _ _ h => h), h.mv, h.hp, h.nb, Nat.le_trans h.kk hb.size⟩
theorem WB.put (h : WB w p ao0 ao B K wx) (hw : WrB w' p ao' B') (hS : Stays (foot p ao) wx w') (hM : Moved wx.heap.size ao ao') : WB w p ao0 ao' B' K w' :=
 ⟨hw, h.st.foot hS h.mv, h.mv.trans hM h.st.size, h.hp, fun b hb hh => by
  rcases hM b hb with h1 | h1
  ·exact h.nb b h1 hh
  ·have := h.kk; omega, Nat.le_trans h.kk hS.size⟩
theorem WB.box (h : WB w p ao0 ao B K wx) (hS : Stays (foot p ao) wx w') (i : Nat) (h1 : w.heap.size ≤ i) (h2 : i < K) : w'.heap[i]? = wx.heap[i]? :=
 hS.block i (by have := h.kk; omega) (fun hf => by
  rcases hf with hf | hf
  ·have := h.hp; omega
  ·exact h.nb i hf ⟨h1, h2⟩)
theorem WB.ints {xo : Option Addr} {l : List Int} (h : WB w p ao0 ao B K wx) (hl : IntsAt w xo l) (ha : Apart p ao0 xo l) : IntsAt wx xo l := by
 by_cases h0 : 0 < l.length
 ·exact hl.stays h.st (ha h0)
 ·exact hl.none_ h0
end
theorem results_none {fn : Func} (h : fn.results = #[]) (tmps : Array Value) (P : Program) (w : World) : (results fn tmps).run P w = .ok (.tuple #[]) w := by
 simp only [results, h]
 simp [Sem.run_bind, Result.andThen]
theorem RB.of_box {w wx : World} {c : Rc} {pa : Option Addr} {pc : Nat} {ea : Option Addr} {ec : Nat} (h : wx.heap[w.heap.size]? = some (.cells (riceC c pa pc ea ec) 25 (0, 0))) :
  wx.cell? ⟨w.heap.size, 0, none⟩ = some (.int .i64 c.m) ∧ wx.cell? ⟨w.heap.size, 1, none⟩ = some (.int .i64 c.o) ∧ wx.cell? ⟨w.heap.size, 2, none⟩ = some (.slice pa c.P.length pc) ∧ wx.cell? ⟨w.heap.size, 3, none⟩ = some (.slice ea c.E.length ec) := by
 refine ⟨?_, ?_, ?_, ?_⟩ <;> (rw [cell_of_row _ _ _ _ _ _ h]; rfl)
theorem writeHead_spec (c : Rc) (b o r i : Nat) (h : Rok c b o r) (hi : i < 2 ^ o) (pa : Option Addr) (pc : Nat) (ea : Option Addr) (ec : Nat) (p : Nat) (ao : Option Addr) (B : List Nat) (h01 : Bits01 B) (hB : B.length ≤ 6000000000000) (w : World) (hr : RcAt w c pa ea) (hw : WrB w p ao B) (a1 : Apart p ao pa c.P) (a2 : Apart p ao ea c.E) :
  Calls Tryz.prog 182 #[.pointer (some ⟨p, 0, none⟩), riceV c pa pc ea ec, .int .i64 (i : Int)] w fun en w' => en = .returned (.tuple #[]) ∧ ∃ ao', WrB w' p ao' (B ++ headB c.m (c.P.getD i 0) (c.E.getD i 0)) ∧ Stays (foot p ao) w w' ∧ Moved w.heap.size ao ao' := by
 have hjP : i < c.P.length := by rw [h.lP]; exact hi
 have hjE : i < c.E.length := by rw [h.lE]; exact hi
 obtain ⟨b1, o1, rfl⟩ := hr.P.addr (by omega)
 obtain ⟨b2, o2, rfl⟩ := hr.E.addr (by omega)
 have hrow := h.row i hi
 have hm0 := h.m0
 have hm1 := h.m1
 have hi2 : i < 32768 := by have := (pow15 o h.cut.o15).2; omega
 have KW : Hid (∀ wx, Calls Tryz.prog 222 #[.int .i64 c.m] wx fun e w' => e = .returned (.int .i64 (4 + c.m)) ∧ w' = wx) := fun wx => pw_spec c.m hm0 hm1 wx
 have KM : Hid (∀ wx, Calls Tryz.prog 223 #[.int .i64 c.m] wx fun e w' => e = .returned (.int .i64 (15 + 16 * c.m)) ∧ w' = wx) := fun wx => mark_spec c.m hm0 hm1 wx
 have HA : Hid (WB w p ao ao B (w.heap.size + 1) (w.alloc (.cells (riceC c (some ⟨b1, o1, none⟩) pc (some ⟨b2, o2, none⟩) ec) 25))) := WB.start hw ((Below.refl _ _).alloc (Nat.le_refl _) _) _ (by simp)
 have HBX : Hid ((w.alloc (.cells (riceC c (some ⟨b1, o1, none⟩) pc (some ⟨b2, o2, none⟩) ec) 25)).heap[w.heap.size]? = some (.cells (riceC c (some ⟨b1, o1, none⟩) pc (some ⟨b2, o2, none⟩) ec) 25 (0, 0))) := heap_alloc_new _ _
 have HPE : Hid (∀ ao' B' K wx, WB w p ao ao' B' K wx → wx.cell? ⟨b1, o1 + i, none⟩ = some (.int .i64 (c.P.getD i 0)) ∧ wx.cell? ⟨b2, o2 + i, none⟩ = some (.int .i64 (c.E.getD i 0))) := fun ao' B' K wx hh => ⟨(hh.ints hr.P a1).get i hjP, (hh.ints hr.E a2).get i hjE⟩
 clear h hr hw a1 a2
 generalize c.P.getD i 0 = kk at *
 generalize c.E.getD i 0 = ee at *
 rcases hrow with ⟨rfl, k0, k1⟩ | ⟨e0, e1, rfl⟩
 ·obtain ⟨kn, rfl⟩ : ∃ n : Nat, kk = n := ⟨kk.toNat, by omega⟩
  have HHB : Hid (headB c.m (kn : Int) (-1) = putB (kn : Int) (4 + c.m)) := by show _ = _; unfold headB; rw [if_pos rfl]
  go_enter Tryz.func182, Tryz.ntmps182
  go_wp2_with fail
  generalize hwa : w.alloc _ = wa at *
  clear hwa
  refine (KW.out wa).mono ?_
  rintro e w2 ⟨rfl, rfl⟩
  obtain ⟨r1, r2⟩ := HPE.out _ _ _ _ HA.out
  obtain ⟨x0, x1, x2, x3⟩ := RB.of_box HBX.out
  have kp := wput_all w2 ao B p (kn : Int) (4 + c.m) (by omega) (by omega) h01 (by omega) HA.out.wr
  go_wp2_with fail
  refine kp.mono ?_
  rintro e w3 ⟨rfl, ao3, hw3, hs3, hv3⟩
  have HE := HA.out.put hw3 hs3 hv3
  have HE' : Hid (WB w p ao ao3 (B ++ putB (kn : Int) (4 + c.m)) (w.heap.size + 1) w3) := HE
  clear HE hw3 hs3 hv3
  go_wp2_with fail
  refine bodyPost_ret (v := .tuple #[]) (results_none rfl _ _ _) rfl ?_
  exact ⟨rfl, ao3, by rw [HHB.out]; exact HE'.out.wr, HE'.out.st, HE'.out.mv⟩
 ·obtain ⟨en, rfl⟩ : ∃ n : Nat, ee = n := ⟨ee.toNat, by omega⟩
  have hbe : ((en : Int) == -1) = false := by rw [beq_eq_false_iff_ne]; omega
  have HHB : Hid (headB c.m 0 (en : Int) = putB (15 + 16 * c.m) (4 + c.m) ++ putB (en : Int) 5) := by show _ = _; unfold headB; rw [if_neg (by omega)]
  go_enter Tryz.func182, Tryz.ntmps182
  go_wp2_with fail
  generalize hwa : w.alloc _ = wa at *
  clear hwa
  refine (KW.out wa).mono ?_
  rintro e w2 ⟨rfl, rfl⟩
  obtain ⟨r1, r2⟩ := HPE.out _ _ _ _ HA.out
  obtain ⟨x0, x1, x2, x3⟩ := RB.of_box HBX.out
  have kp := wput_all w2 ao B p (15 + 16 * c.m) (4 + c.m) (by omega) (by omega) h01 (by omega) HA.out.wr
  go_wp2_with fail
  refine (KM.out w2).mono ?_
  rintro e w2 ⟨rfl, rfl⟩
  go_wp2_with fail
  refine kp.mono ?_
  rintro e w3 ⟨rfl, ao3, hw3, hs3, hv3⟩
  have HE : Hid (WB w p ao ao3 (B ++ putB (15 + 16 * c.m) (4 + c.m)) (w.heap.size + 1) w3) := HA.out.put hw3 hs3 hv3
  have HB3 : Hid (w3.heap[w.heap.size]? = some (.cells (riceC c (some ⟨b1, o1, none⟩) pc (some ⟨b2, o2, none⟩) ec) 25 (0, 0))) := by show _ = _; rw [HA.out.box hs3 _ (Nat.le_refl _) (by omega)]; exact HBX.out
  clear hw3 hs3 hv3 kp x0 x1 x2 x3 r1 r2
  obtain ⟨r1, r2⟩ := HPE.out _ _ _ _ HE.out
  obtain ⟨x0, x1, x2, x3⟩ := RB.of_box HB3.out
  have kp := wput_all w3 ao3 (B ++ putB (15 + 16 * c.m) (4 + c.m)) p (en : Int) 5 (by omega) (by omega) (h01.append (putB_01 _ _)) (by rw [List.length_append]; have := putB_short (15 + 16 * c.m) (4 + c.m) (by omega); omega) HE.out.wr
  go_wp2_with fail
  refine kp.mono ?_
  rintro e w4 ⟨rfl, ao4, hw4, hs4, hv4⟩
  have HE4 : Hid (WB w p ao ao4 (B ++ putB (15 + 16 * c.m) (4 + c.m) ++ putB (en : Int) 5) (w.heap.size + 1) w4) := HE.out.put hw4 hs4 hv4
  clear hw4 hs4 hv4 kp
  go_wp2_with fail
  go_end0
  exact ⟨rfl, ao4, by rw [HHB.out, ← List.append_assoc]; exact HE4.out.wr, HE4.out.st, HE4.out.mv⟩
theorem writePart_spec (c : Rc) (b o r i : Nat) (h : Rok c b o r) (hi : i < 2 ^ o) (X : List Int) (hX : ∀ x ∈ X, fitE (c.P.getD i 0) (c.E.getD i 0) x) (pa : Option Addr) (pc : Nat) (ea : Option Addr) (ec : Nat) (xo : Option Addr) (cap : Nat) (p : Nat) (ao : Option Addr) (B : List Nat) (h01 : Bits01 B) (hB : B.length + 17000000 * X.length ≤ 6000000000000) (w : World) (hr : RcAt w c pa ea) (hx : IntsAt w xo X) (hw : WrB w p ao B) (a1 : Apart p ao pa c.P) (a2 : Apart p ao ea c.E) (a3 : Apart p ao xo X) :
  Calls Tryz.prog 183 #[.pointer (some ⟨p, 0, none⟩), riceV c pa pc ea ec, .int .i64 (i : Int), .slice xo X.length cap] w fun en w' => en = .returned (.tuple #[]) ∧ ∃ ao', WrB w' p ao' (B ++ numsB (c.P.getD i 0) (c.E.getD i 0) X) ∧ Stays (foot p ao) w w' ∧ Moved w.heap.size ao ao' := by
 have hjP : i < c.P.length := by rw [h.lP]; exact hi
 have hjE : i < c.E.length := by rw [h.lE]; exact hi
 obtain ⟨b1, o1, rfl⟩ := hr.P.addr (by omega)
 obtain ⟨b2, o2, rfl⟩ := hr.E.addr (by omega)
 have hrow := h.row i hi
 have hi2 : i < 32768 := by have := (pow15 o h.cut.o15).2; omega
 have hlX := hx.len
 have HA : Hid (WB w p ao ao B (w.heap.size + 1) (w.alloc (.cells (riceC c (some ⟨b1, o1, none⟩) pc (some ⟨b2, o2, none⟩) ec) 25))) := WB.start hw ((Below.refl _ _).alloc (Nat.le_refl _) _) _ (by simp)
 have HBX : Hid ((w.alloc (.cells (riceC c (some ⟨b1, o1, none⟩) pc (some ⟨b2, o2, none⟩) ec) 25)).heap[w.heap.size]? = some (.cells (riceC c (some ⟨b1, o1, none⟩) pc (some ⟨b2, o2, none⟩) ec) 25 (0, 0))) := heap_alloc_new _ _
 have HPE : Hid (∀ ao' B' K wx, WB w p ao ao' B' K wx → wx.cell? ⟨b1, o1 + i, none⟩ = some (.int .i64 (c.P.getD i 0)) ∧ wx.cell? ⟨b2, o2 + i, none⟩ = some (.int .i64 (c.E.getD i 0)) ∧ IntsAt wx xo X) := fun ao' B' K wx hh => ⟨(hh.ints hr.P a1).get i hjP, (hh.ints hr.E a2).get i hjE, hh.ints hx a3⟩
 have HN : Hid (∀ x ∈ X, -9223372036854775808 ≤ x ∧ x ≤ 9223372036854775807) := hx.num
 have HXA : Hid (∀ j, j < X.length → ∃ b off, xo = some ⟨b, off, none⟩) := fun j hj => hx.addr (by omega)
 clear h hr hw a1 a2 hx
 generalize c.P.getD i 0 = kk at *
 generalize c.E.getD i 0 = ee at *
 have HFT : Hid (∀ x ∈ X, fitE kk ee x) := hX
 clear hX
 go_enter Tryz.func183, Tryz.ntmps183
 go_wp2_with fail
 generalize hwa : w.alloc _ = wa at *
 clear hwa
 go_loopw [9, 10, 13, 27, 37] (fun s9 s10 s13 s27 s37 wr => ∃ (j : Nat) (aj : Option Addr), j ≤ X.length ∧ s13 = .int .i64 (j : Int) ∧ WB w p ao aj (B ++ numsB kk ee (X.take j)) (w.heap.size + 1) wr ∧ wr.heap[w.heap.size]? = some (.cells (riceC c (some ⟨b1, o1, none⟩) pc (some ⟨b2, o2, none⟩) ec) 25 (0, 0))) (fun _ _ s13 _ _ _ => X.length - (intOf s13).toNat)
 case atStart => exact ⟨0, ao, Nat.zero_le _, rfl, by rw [List.take_zero, numsB_nil, List.append_nil]; exact HA.out, HBX.out⟩
 case round =>
  clear HA HBX
  obtain ⟨j, aj, hj, rfl, hwb, hbx⟩ := hrel
  have HA : Hid (WB w p ao aj (B ++ numsB kk ee (X.take j)) (w.heap.size + 1) wr) := hwb
  have HBX : Hid (wr.heap[w.heap.size]? = some (.cells (riceC c (some ⟨b1, o1, none⟩) pc (some ⟨b2, o2, none⟩) ec) 25 (0, 0))) := hbx
  clear hwb hbx
  by_cases hlt : j < X.length
  ·obtain ⟨bx, ox, rfl⟩ := HXA.out j hlt
   obtain ⟨r1, r2, hxx⟩ := HPE.out _ _ _ _ HA.out
   have r3 := hxx.get j hlt
   obtain ⟨x0, x1, x2, x3⟩ := RB.of_box HBX.out
   have hft := HFT.out _ (getD_mem X j hlt)
   have hnn := HN.out _ (getD_mem X j hlt)
   have HT : Hid (numsB kk ee (X.take (j + 1)) = numsB kk ee (X.take j) ++ oneB kk ee (X.getD j 0)) := by show _ = _; rw [take_snoc X j hlt, numsB_snoc]
   have hlen : (B ++ numsB kk ee (X.take j)).length ≤ 6000000000000 := by
    rw [List.length_append]
    have := numsB_len kk ee (X.take j)
    rw [List.length_take] at this
    have : 17000000 * min j X.length ≤ 17000000 * X.length := Nat.mul_le_mul_left _ (Nat.min_le_right _ _)
    omega
   have h01' : Bits01 (B ++ numsB kk ee (X.take j)) := h01.append (numsB_01 _ _ _)
   clear hxx
   generalize X.getD j 0 = x at *
   generalize hBJ : B ++ numsB kk ee (X.take j) = BJ at *
   have HGO : Hid (B ++ numsB kk ee (X.take (j + 1)) = BJ ++ oneB kk ee x) := by show _ = _; rw [HT.out, ← List.append_assoc, hBJ]
   clear hBJ HT
   rcases hrow with ⟨rfl, k0, k1⟩ | ⟨e0, e1, rfl⟩
   ·have HOB : Hid (oneB kk (-1) x = rcwB x kk) := by show _ = _; unfold oneB; rw [if_pos rfl]
    have kp := wric_all wr aj BJ p x kk hnn.1 hnn.2 h01' (by omega) HA.out.wr
    clear hft
    go_wp2_with fail
    refine kp.mono ?_
    rintro e w3 ⟨rfl, ao3, hw3, hs3, hv3⟩
    have HE : Hid (WB w p ao ao3 (BJ ++ rcwB x kk) (w.heap.size + 1) w3) := HA.out.put hw3 hs3 hv3
    have HB3 : Hid (w3.heap[w.heap.size]? = some (.cells (riceC c (some ⟨b1, o1, none⟩) pc (some ⟨b2, o2, none⟩) ec) 25 (0, 0))) := by show _ = _; rw [HA.out.box hs3 _ (Nat.le_refl _) (by omega)]; exact HBX.out
    clear hw3 hs3 hv3 kp x0 x1 x2 x3 r1 r2 r3
    go_wp2_with fail
    go_roundw
    case rel => exact ⟨j + 1, ao3, by omega, by go_num, by rw [HGO.out, HOB.out]; exact HE.out, HB3.out⟩
    case measure => simp [intOf]; omega
   ·obtain ⟨en, rfl⟩ : ∃ n : Nat, ee = n := ⟨ee.toNat, by omega⟩
    have hbe : ((en : Int) == -1) = false := by rw [beq_eq_false_iff_ne]; omega
    by_cases hz : en = 0
    ·subst hz
     have HOB : Hid (oneB 0 ((0 : Nat) : Int) x = []) := by show _ = _; unfold oneB; rw [if_neg (by decide), if_pos (show ((0 : Nat) : Int) = 0 from rfl)]
     clear hft
     go_wp2_with fail
     go_roundw
     case rel => exact ⟨j + 1, aj, by omega, by go_num, by rw [HGO.out, HOB.out, List.append_nil]; exact HA.out, HBX.out⟩
     case measure => simp [intOf]; omega
    ·have hbz : ((en : Int) == 0) = false := by rw [beq_eq_false_iff_ne]; omega
     have HOB : Hid (oneB 0 (en : Int) x = sigB x (en : Int)) := by show _ = _; unfold oneB; rw [if_neg (by omega), if_neg (by omega)]
     have kp := wsig_all wr aj BJ p x (en : Int) h01' (by omega) HA.out.wr
     clear hft
     go_wp2_with fail
     refine kp.mono ?_
     rintro e w3 ⟨rfl, ao3, hw3, hs3, hv3⟩
     have HE : Hid (WB w p ao ao3 (BJ ++ sigB x (en : Int)) (w.heap.size + 1) w3) := HA.out.put hw3 hs3 hv3
     have HB3 : Hid (w3.heap[w.heap.size]? = some (.cells (riceC c (some ⟨b1, o1, none⟩) pc (some ⟨b2, o2, none⟩) ec) 25 (0, 0))) := by show _ = _; rw [HA.out.box hs3 _ (Nat.le_refl _) (by omega)]; exact HBX.out
     clear hw3 hs3 hv3 kp x0 x1 x2 x3 r1 r2 r3
     go_wp2_with fail
     go_roundw
     case rel => exact ⟨j + 1, ao3, by omega, by go_num, by rw [HGO.out, HOB.out]; exact HE.out, HB3.out⟩
     case measure => simp [intOf]; omega
  ·have HE : Hid (X.take j = X) := List.take_of_length_le (by omega)
   go_wp2_with fail
   go_end0
   exact ⟨rfl, aj, by have := HA.out.wr; rw [HE.out] at this; exact this, HA.out.st, HA.out.mv⟩
end Go.Proofs.YthgpleelpeacjaaGreatDoor
