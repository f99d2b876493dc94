/- Own text: the walk of Build. -/
import Derived.Test.YtfnkdahocehilaaGreatG30x
import Derived.Test.YtfnkdahocehilaaGreatG31x
import Derived.Test.YtfnkdahocehilaaGreatQ6splain
import Derived.Test.YtfnkdahocehilaaGreatQ6parse2
import Derived.Test.YtfnkdahocehilaaGreatQ5pack3
import Derived.Test.YtfnkdahocehilaaGreatQ5fits
import Derived.Deep.CutRange
import Derived.Laws.Tables
namespace Go.Proofs.YtfnkdahocehilaaGreat
open Go.RowKit
set_option linter.unusedSimpArgs false
set_option linter.unusedVariables false

def fB (wf : ByteArray) (L : List Chk) : Fst := ⟨⟨false, ⟨#[]⟩, 0⟩, wf, 4 + (sizeL L : Int), 0, false, false, ⟨0, 0, 0⟩, ⟨#[]⟩, 0⟩
def smpN (p : Pcm) : ByteArray := pakN p false (p.wd == 8)
def bldL (p : Pcm) (l : List Chk) : List Chk := l.map (fillC (smpN p))
def bldE (p : Pcm) (wf : ByteArray) (l : List Chk) : Int :=
  if fitsN 1 p = 0 then (if fillB l && standB (bldL p l) then (if (headN (fB wf (bldL p l))).2 && hasB (fB wf (bldL p l)) (bldL p l) (sndP p) then (if 67108864 < 4 + (sizeL (bldL p l) : Int) + 8 then 5 else 0) else 60) else 60) else fitsN 1 p
def bldT (p : Pcm) (wf : ByteArray) (l : List Chk) : ByteArray := if bldE p wf l = 0 then textOf (bytesOf (headN (fB wf (bldL p l))).1 ++ layZ (hasN (fB wf (bldL p l)) (bldL p l)).1.z (bldL p l)) else ⟨#[]⟩
theorem Jz.new2 (w : World) (dp dw : Array Value) : Jz w dp dw ((w.alloc (.cells dp 37)).alloc (.cells dw 39)) := by
  refine ⟨?_, ?_, ((Below.refl _ _).alloc (Nat.le_refl _) _).alloc (by simp) _⟩
  · exact (((Below.refl _ _).alloc (Nat.le_refl _) _).block _ (by simp)).trans (heap_alloc_new w _)
  · rw [← show (w.alloc (.cells dp 37)).heap.size = w.heap.size + 1 from by simp]
    exact heap_alloc_new _ _
theorem takeN_keep (f : Fst) (c : Chk) : (takeN f c).1.behind = f.behind ∧ (takeN f c).1.form = f.form := by
  unfold takeN
  split
  · exact ⟨rfl, rfl⟩
  · split
    · unfold takeSizesN
      split
      · exact ⟨rfl, rfl⟩
      · split
        · exact ⟨rfl, rfl⟩
        · split <;> exact ⟨rfl, rfl⟩
    · split
      · unfold takeFmtN
        split <;> exact ⟨rfl, rfl⟩
      · split
        · unfold takeDataN
          split <;> exact ⟨rfl, rfl⟩
        · exact ⟨rfl, rfl⟩
theorem hasN_keep : ∀ (l : List Chk) (f : Fst), (hasN f l).1.behind = f.behind ∧ (hasN f l).1.form = f.form
  | [], f => ⟨rfl, rfl⟩
  | c :: t, f => by
    have h1 := takeN_keep f c
    rw [hasN]
    split
    · have h2 := hasN_keep t (takeN f c).1
      exact ⟨h2.1.trans h1.1, h2.2.trans h1.2⟩
    · exact h1
theorem fair_fill (l : List Chk) (s : ByteArray) (h : FairL l) (hs : s.size ≤ 140737488351232) : FairL (l.map (fillC s)) := by
  intro c hc
  obtain ⟨d, hd, rfl⟩ := List.mem_map.1 hc
  have h1 := h d hd
  unfold fillC
  split
  · exact ⟨h1.1, hs⟩
  · exact h1
theorem sizeL_fair (l : List Chk) (h : FairL l) (hl : l.length ≤ 1024) : sizeL l ≤ 1000000000000000000 := by
  have h1 : ∀ (l : List Chk), FairL l → sizeL l ≤ l.length * 140737488351241 := by
    intro l
    induction l with
    | nil => intro _; exact Nat.zero_le _
    | cons c t ih =>
      intro hf
      have := ih fun d hd => hf d (List.mem_cons_of_mem _ hd)
      have hc := (hf c (List.mem_cons_self ..)).2
      have e : sizeL (c :: t) = sizeC c + sizeL t := by simp [sizeL]
      have hs : sizeC c ≤ 140737488351241 := by
        unfold sizeC
        split <;> omega
      rw [e, List.length_cons]
      omega
  have := h1 l h
  have h2 : l.length * 140737488351241 ≤ 1024 * 140737488351241 := Nat.mul_le_mul_right _ hl
  omega
theorem smp_size (p : Pcm) (h : fitsN 1 p = 0) : (smpN p).size ≤ 33554432 := by
  have hc : checkN p = 0 := by
    unfold fitsN at h
    rw [if_pos (show formatB 1 = true from rfl)] at h
    by_cases q : checkN p = 0
    · exact q
    · rw [if_neg q] at h
      exact h
  obtain ⟨hh, hl, _⟩ := check_zero p hc
  obtain ⟨_, _, c1, c2, w1, w2, _⟩ := head_parts p hh
  unfold smpN pakN
  rw [if_pos hc, textOf_size, packL_length]
  have hn := nby_range p.wd w1 w2
  have h1 : p.ch.toNat * nby p.wd ≤ 8 * 4 := Nat.mul_le_mul (by omega) hn.2.1
  have h2 : lenP p * (p.ch.toNat * nby p.wd) ≤ 1048576 * 32 := Nat.mul_le_mul hl h1
  omega
/-- Boxes of Build: the arguments', the sound's. -/
structure Jm (w0 : World) (dp dw : Array Value) (Q : Nat) (p : Pcm) (w : World) : Prop where
  z : Jz w0 dp dw w
  sb : w.heap[Q]? = some (.cells #[.int .i64 p.rate, .int .i64 p.ch, .int .i64 p.wd] 73 (0, 0))
theorem Jm.next {w0 w w1 : World} {dp dw : Array Value} {Q : Nat} {p : Pcm} (h : Jm w0 dp dw Q p w) (hB : Below w.heap.size w w1) : Jm w0 dp dw Q p w1 := ⟨h.z.next hB, (hB.block _ (lt_of_block h.sb)).trans h.sb⟩
theorem Jm.s {w0 w : World} {dp dw : Array Value} {Q : Nat} {p : Pcm} (h : Jm w0 dp dw Q p w) (j : Nat) (v : Value) (hv : (#[.int .i64 p.rate, .int .i64 p.ch, .int .i64 p.wd] : Array Value)[j]? = some v) : w.cell? ⟨Q, j, none⟩ = some v := by rw [cell_of_row _ _ _ _ _ _ h.sb]; exact hv

theorem infoFile : (Tryz.prog.info? 83).map (·.size) = some 13 := by kernel_rfl
theorem frozen_row {w : World} {b j : Nat} {d : Array Value} {T : TypeId} (h : w.heap[b]? = some (.cells d T (0, 0))) : w.frozen? ⟨b, j, none⟩ = false := by simp [World.frozen?, h]
theorem eq_of_list (a b : ByteArray) (h : (a.toList == b.toList) = true) : a = b := by
  have h := eq_of_beq h
  rw [ByteArray.toList_eq, ByteArray.toList_eq] at h
  apply ByteArray.ext
  exact Array.toList_inj.1 h
theorem headN_size (f : Fst) (h : (headN f).2 = true) : (headN f).1.size ≤ 16 := by
  unfold headN at h ⊢
  cases h1 : shortB f
  · rw [h1] at h
    cases h2 : longB f
    · rw [h2] at h
      cases h
    · have e := eq_of_list _ _ h2
      simp only [Bool.false_eq_true, if_false, if_true]
      rw [e, ByteArray.size_append, ByteArray.size_append]
      have := leT_size 4294967295 4
      have e1 : rf64.size = 4 := rfl
      have e2 : waveT.size = 4 := rfl
      omega
  · have e := eq_of_list _ _ h1
    simp only [if_true]
    rw [e, ByteArray.size_append, ByteArray.size_append]
    have := leT_size f.behind 4
    have e1 : riffT.size = 4 := rfl
    have e2 : waveT.size = 4 := rfl
    omega
/-- The file beside Build's boxes and the chunks. -/
structure Jn (w0 : World) (dp dw : Array Value) (Q : Nat) (p : Pcm) (b : Nat) (f : Fst) (lo : Option Addr) (L : List Chk) (w : World) : Prop where
  m : Jm w0 dp dw Q p w
  fa : Fa b f w
  ch : ChksAt w lo L
  ne : LtC b lo
  lq : Q < b
  lw : w0.heap.size + 1 < b
theorem Jn.next {w0 w w1 : World} {dp dw : Array Value} {Q : Nat} {p : Pcm} {b : Nat} {f : Fst} {lo : Option Addr} {L : List Chk} (h : Jn w0 dp dw Q p b f lo L w) (hB : Below w.heap.size w w1) : Jn w0 dp dw Q p b f lo L w1 := ⟨h.m.next hB, h.fa.next hB, h.ch.below hB, h.ne, h.lq, h.lw⟩
theorem Jn.step {w0 w w1 : World} {dp dw : Array Value} {Q : Nat} {p : Pcm} {b : Nat} {f g : Fst} {lo : Option Addr} {L : List Chk} (h : Jn w0 dp dw Q p b f lo L w) (hf : Fa b g w1) (hB : But b w w1) : Jn w0 dp dw Q p b g lo L w1 :=
  ⟨⟨h.m.z.but h.lw hB, (hB.block _ (lt_of_block h.m.sb) (some_ne2 (by have := h.lq; omega))).trans h.m.sb⟩, hf, h.ch.keep hB (fun b' off e => by have := h.ne b' off e; omega), h.ne, h.lq, h.lw⟩

set_option maxRecDepth 400000 in
set_option maxHeartbeats 12800000 in
theorem Build_spec (p : Pcm) (po : Option Addr) (pc : Nat) (wf : ByteArray) (l : List Chk) (wo : Option Addr) (wq : Nat) (w : World) (hr : RowsAt w po p.pl) (hl : ChksAt w wo l) (hf : FairL l) (hwf : wf.size ≤ 140737488355328) :
    Calls Tryz.prog 16 #[pcmV p po pc, .agg (waveC wf l wo wq)] w fun e w' => e = .returned (.tuple #[.string (bldT p wf l), .int .i64 (bldE p wf l)]) ∧ Below w.heap.size w w' := by
  have HJ0 : Hid (Jz w (pcmC p po pc) (waveC wf l wo wq) ((w.alloc (.cells (pcmC p po pc) 37)).alloc (.cells (waveC wf l wo wq) 39))) := Jz.new2 w _ _
  have kf := fits5_spec 1 p po pc ((w.alloc (.cells (pcmC p po pc) 37)).alloc (.cells (waveC wf l wo wq) 39)) (hr.below HJ0.out.below)
  have HBE : Hid (bldE p wf l = if fitsN 1 p = 0 then (if fillB l && standB (bldL p l) then (if (headN (fB wf (bldL p l))).2 && hasB (fB wf (bldL p l)) (bldL p l) (sndP p) then (if 67108864 < 4 + (sizeL (bldL p l) : Int) + 8 then 5 else 0) else 60) else 60) else fitsN 1 p) := rfl
  have HBT : Hid (bldT p wf l = if bldE p wf l = 0 then textOf (bytesOf (headN (fB wf (bldL p l))).1 ++ layZ (hasN (fB wf (bldL p l)) (bldL p l)).1.z (bldL p l)) else ⟨#[]⟩) := rfl
  have HR : Hid (RowsAt w po p.pl) := hr
  have HL : Hid (ChksAt w wo l) := hl
  have HF : Hid (FairL l ∧ wf.size ≤ 140737488355328) := ⟨hf, hwf⟩
  clear hr hl hf hwf
  go_enter Tryz.func16, Tryz.ntmps16
  go_wp2_with fail
  refine kf.mono ?_
  rintro e w2 ⟨rfl, hB2⟩
  have HJ2 : Hid (Jz w (pcmC p po pc) (waveC wf l wo wq) w2) := HJ0.out.next hB2
  clear kf hB2 HJ0
  cases hE : fitsN 1 p != 0
  · have hE0 : fitsN 1 p = 0 := by simpa using hE
    have HSM : Hid ((smpN p).size ≤ 33554432) := smp_size p hE0
    have HBE2 : Hid (bldE p wf l = (if fillB l && standB (bldL p l) then (if (headN (fB wf (bldL p l))).2 && hasB (fB wf (bldL p l)) (bldL p l) (sndP p) then (if 67108864 < 4 + (sizeL (bldL p l) : Int) + 8 then 5 else 0) else 60) else 60)) := HBE.out.trans (if_pos hE0)
    rw [hE0]
    have p0 := HJ2.out.p 0 _ rfl
    have p1 := HJ2.out.p 1 _ rfl
    have p2 := HJ2.out.p 2 _ rfl
    have p3 := HJ2.out.p 3 _ rfl
    have ks := soundIn_spec p po pc w2
    clear HBE hE hE0
    go_wp2_with fail
    refine ks.mono ?_
    rintro e w3 ⟨rfl, hB3⟩
    have HM : Hid (Jm w (pcmC p po pc) (waveC wf l wo wq) w3.heap.size p (w3.alloc (.cells #[.int .i64 p.rate, .int .i64 p.ch, .int .i64 p.wd] 73))) := ⟨(HJ2.out.next hB3).next ((Below.refl _ _).alloc (Nat.le_refl _) _), heap_alloc_new w3 _⟩
    clear ks hB3 HJ2 p0 p1 p2 p3
    go_wp2_with fail
    generalize hw4 : World.alloc w3 _ = w4
    have HM4 : Hid (Jm w (pcmC p po pc) (waveC wf l wo wq) w3.heap.size p w4) := by
      rw [← hw4]
      exact HM.out
    generalize w3.heap.size = Q at *
    clear hw4 HM
    have KL : Hid (∀ wx, Hid (Jm w (pcmC p po pc) (waveC wf l wo wq) Q p wx) → Calls Tryz.prog 36 #[.agg #[.int .i64 p.rate, .int .i64 p.ch, .int .i64 p.wd]] wx fun e w' => e = .returned (.agg #[.bool false, .bool (p.wd == 8)]) ∧ Hid (Jm w (pcmC p po pc) (waveC wf l wo wq) Q p w')) := fun wx hx =>
      (layout_spec (sndP p) wx).mono fun e w' q => ⟨q.1, hx.out.next q.2⟩
    have KP : Hid (∀ wx, Hid (Jm w (pcmC p po pc) (waveC wf l wo wq) Q p wx) → Calls Tryz.prog 35 #[.agg #[.int .i64 p.rate, .int .i64 p.ch, .int .i64 p.wd, .slice po p.pl.length pc], .agg #[.bool false, .bool (p.wd == 8)]] wx fun e w' => e = .returned (.tuple #[.string (smpN p), .int .i64 (checkN p)]) ∧ Hid (Jm w (pcmC p po pc) (waveC wf l wo wq) Q p w')) := fun wx hx =>
      (pack_spec p po pc false (p.wd == 8) wx (HR.out.below hx.out.z.below)).mono fun e w' q => ⟨q.1, hx.out.next q.2⟩
    have HS : Hid (∀ wx, Hid (Jm w (pcmC p po pc) (waveC wf l wo wq) Q p wx) → wx.cell? ⟨w.heap.size, 0, none⟩ = some (.int .i64 p.rate) ∧ wx.cell? ⟨w.heap.size, 1, none⟩ = some (.int .i64 p.ch) ∧ wx.cell? ⟨w.heap.size, 2, none⟩ = some (.int .i64 p.wd) ∧ wx.cell? ⟨w.heap.size, 3, none⟩ = some (.slice po p.pl.length pc) ∧ wx.cell? ⟨Q, 0, none⟩ = some (.int .i64 p.rate) ∧ wx.cell? ⟨Q, 1, none⟩ = some (.int .i64 p.ch) ∧ wx.cell? ⟨Q, 2, none⟩ = some (.int .i64 p.wd)) := fun wx hx => ⟨hx.out.z.p 0 _ rfl, hx.out.z.p 1 _ rfl, hx.out.z.p 2 _ rfl, hx.out.z.p 3 _ rfl, hx.out.s 0 _ rfl, hx.out.s 1 _ rfl, hx.out.s 2 _ rfl⟩
    have HD : Hid (Jm w (pcmC p po pc) (waveC wf l wo wq) Q p w4.drew) := HM4.out.next ⟨rfl, rfl, rfl, Nat.le_refl _, fun _ _ => rfl⟩
    generalize (p.wd == 8) = u8 at *
    go_region_held3 (fun wx => wx.cell? ⟨w.heap.size, 0, none⟩ = some (.int .i64 p.rate) ∧ wx.cell? ⟨w.heap.size, 1, none⟩ = some (.int .i64 p.ch) ∧ wx.cell? ⟨w.heap.size, 2, none⟩ = some (.int .i64 p.wd) ∧ wx.cell? ⟨w.heap.size, 3, none⟩ = some (.slice po p.pl.length pc) ∧ wx.cell? ⟨Q, 0, none⟩ = some (.int .i64 p.rate) ∧ wx.cell? ⟨Q, 1, none⟩ = some (.int .i64 p.ch) ∧ wx.cell? ⟨Q, 2, none⟩ = some (.int .i64 p.wd)) (exact HS.out _ (by assumption))
      (first
        | (go_at_call 36; refine (KL.out _ (by assumption)).mono ?_; rintro e w5 ⟨rfl, h5⟩)
        | (go_at_call 35; refine (KP.out _ (by assumption)).mono ?_; rintro e w6 ⟨rfl, h6⟩))
    have HM6 : Hid (Jm w (pcmC p po pc) (waveC wf l wo wq) Q p w6) := h6
    have x1 := HM6.out.z.sk 1 _ rfl
    have kfl := filled_spec l (smpN p) wo wq w6 (HL.out.below HM6.out.z.below)
    have HBL : Hid (bldL p l = l.map (fillC (smpN p))) := rfl
    have HFL : Hid (FairL (bldL p l)) := fair_fill l (smpN p) HF.out.1 (by have := HSM.out; omega)
    clear KL KP HS HD h5 h6
    generalize smpN p = SM at *
    go_wp2_with fail
    refine kfl.mono ?_
    rintro e w7 ⟨hB7, h7⟩
    have HM7 : Hid (Jm w (pcmC p po pc) (waveC wf l wo wq) Q p w7) := HM6.out.next hB7
    clear kfl hB7 HM6 x1
    rcases h7 with ⟨hfb, lo, lc, rfl, hc7, hlt7⟩ | ⟨hfb, rfl⟩
    · have hLL : l.length = (bldL p l).length := by rw [HBL.out, List.length_map]
      have HC7 : Hid (ChksAt w7 lo (bldL p l) ∧ LtC w7.heap.size lo) := ⟨by rw [HBL.out]; exact hc7, hlt7⟩
      have hl24 : l.length ≤ 1024 := of_decide_eq_true (Bool.and_eq_true_iff.1 hfb).1
      rw [hLL]
      rw [hfb] at HBE2
      have km := mayStand_spec (bldL p l) lo lc w7 HC7.out.1 HFL.out (by omega)
      have HSZ : Hid (sizeL (bldL p l) ≤ 1000000000000000000) := sizeL_fair _ HFL.out (by omega)
      have hl24b : (bldL p l).length ≤ 1024 := by omega
      clear hc7 hlt7 hfb HBL hLL hl24
      generalize bldL p l = L at *
      cases hst : standB L
      · have HE : Hid (bldE p wf l = 60) := HBE2.out.trans (by rw [hst]; rfl)
        have HT : Hid (bldT p wf l = ⟨#[]⟩) := HBT.out.trans (if_neg (by rw [HE.out]; decide))
        rw [hst] at km
        clear HBE2 HBT
        go_wp2_with fail
        refine km.mono ?_
        rintro e w8 ⟨rfl, hB8⟩
        have HM8 : Hid (Jm w (pcmC p po pc) (waveC wf l wo wq) Q p w8) := HM7.out.next hB8
        clear km hB8
        go_wp2_with fail
        go_ret2
        exact ⟨by rw [HE.out, HT.out]; rfl, HM8.out.z.below⟩
      · rw [hst] at km HBE2
        go_wp2_with fail
        refine km.mono ?_
        rintro e w8 ⟨rfl, hB8⟩
        have HM8 : Hid (Jm w (pcmC p po pc) (waveC wf l wo wq) Q p w8) := HM7.out.next hB8
        have HC8 : Hid (ChksAt w8 lo L ∧ LtC w8.heap.size lo) := ⟨HC7.out.1.below hB8, fun b off q => Nat.lt_of_lt_of_le (HC7.out.2 b off q) hB8.size⟩
        clear km hB8 HM7 HC7
        go_upto_region 9 with fail
        have hle := HSZ.out
        obtain ⟨BH, hBH⟩ : ∃ BH : Int, 4 + (sizeL L : Int) = BH := ⟨_, rfl⟩
        have HBH : Hid (4 + (sizeL L : Int) = BH) := hBH
        have hwr : IntKind.i64.wrap (4 + (sizeL L : Int)) = BH := by rw [IntKind.wrap_i64]; omega
        clear hBH
        go_cut [12] from 42 to 47 (fun v wx => ∃ b, v = Value.pointer (some ⟨b, 0, none⟩) ∧ Jn w (pcmC p po pc) (waveC wf l wo wq) Q p b (fB wf L) lo L wx)
        case first =>
          have HD : Hid (Jm w (pcmC p po pc) (waveC wf l wo wq) Q p w8.drew ∧ Below w8.heap.size w8 w8.drew) := ⟨HM8.out.next ⟨rfl, rfl, rfl, Nat.le_refl _, fun _ _ => rfl⟩, ⟨rfl, rfl, rfl, Nat.le_refl _, fun _ _ => rfl⟩⟩
          have HSS : Hid (∀ wx, Jm w (pcmC p po pc) (waveC wf l wo wq) Q p wx → (fun wx => wx.cell? ⟨w.heap.size + 1, 0, none⟩ = some (.string wf)) wx) := fun wx hx => hx.z.sk 0 _ rfl
          have KS : Hid (∀ wx, Hid (Jm w (pcmC p po pc) (waveC wf l wo wq) Q p wx ∧ Below w8.heap.size w8 wx) → Calls Tryz.prog 38 #[.slice lo L.length lc] wx fun e w' => e = .returned (.int .i64 (sizeL L : Int)) ∧ Hid (Jm w (pcmC p po pc) (waveC wf l wo wq) Q p w' ∧ Below w8.heap.size w8 w') ∧ Hid (Below wx.heap.size wx w')) := fun wx hx =>
            (sizeOf_spec L lo lc wx (HC8.out.1.below hx.out.2) (by omega) (by omega)).mono fun e w' q => ⟨q.1, ⟨hx.out.1.next q.2, hx.out.2.trans (q.2.mono hx.out.2.size)⟩, q.2⟩
          have HNX : Hid (∀ wx b, wx.heap[b]? = some (.cells #[.bool false, .string ⟨#[]⟩, .int .i64 0, .string ⟨#[]⟩, .int .i64 0, .int .i64 0, .bool false, .bool false, .int .i64 0, .int .i64 0, .int .i64 0, .string ⟨#[]⟩, .int .i64 0] 83 (0, 0)) → Jm w (pcmC p po pc) (waveC wf l wo wq) Q p wx → Below w8.heap.size w8 wx → w8.heap.size ≤ b → Jm w (pcmC p po pc) (waveC wf l wo wq) Q p (wx.setRow b #[.bool false, .string ⟨#[]⟩, .int .i64 0, .string wf, .int .i64 BH, .int .i64 0, .bool false, .bool false, .int .i64 0, .int .i64 0, .int .i64 0, .string ⟨#[]⟩, .int .i64 0]) ∧ Jn w (pcmC p po pc) (waveC wf l wo wq) Q p b (fB wf L) lo L (wx.setRow b #[.bool false, .string ⟨#[]⟩, .int .i64 0, .string wf, .int .i64 BH, .int .i64 0, .bool false, .bool false, .int .i64 0, .int .i64 0, .int .i64 0, .string ⟨#[]⟩, .int .i64 0])) := fun wx b h0 h1 h2 h3 => by
            have hlw := lt_of_block HM8.out.z.rw'
            have hlq := lt_of_block HM8.out.sb
            have hB : Below w8.heap.size wx (wx.setRow b #[.bool false, .string ⟨#[]⟩, .int .i64 0, .string wf, .int .i64 BH, .int .i64 0, .bool false, .bool false, .int .i64 0, .int .i64 0, .int .i64 0, .string ⟨#[]⟩, .int .i64 0]) := ⟨rfl, rfl, rfl, by simp, fun k hk => setRow_other _ _ _ _ (by omega)⟩
            have hJ : Jm w (pcmC p po pc) (waveC wf l wo wq) Q p (wx.setRow b #[.bool false, .string ⟨#[]⟩, .int .i64 0, .string wf, .int .i64 BH, .int .i64 0, .bool false, .bool false, .int .i64 0, .int .i64 0, .int .i64 0, .string ⟨#[]⟩, .int .i64 0]) := ⟨⟨(setRow_other _ _ _ _ (by omega)).trans h1.z.rp, (setRow_other _ _ _ _ (by omega)).trans h1.z.rw', h1.z.below.trans (hB.mono (by omega))⟩, (setRow_other _ _ _ _ (by omega)).trans h1.sb⟩
            exact ⟨hJ, ⟨hJ, ⟨by rw [setRow_heap _ _ _ _ _ _ h0, ← HBH.out]; rfl⟩, HC8.out.1.below (h2.trans hB), fun b' off q => Nat.lt_of_lt_of_le (HC8.out.2 b' off q) h3, Nat.lt_of_lt_of_le hlq h3, Nat.lt_of_lt_of_le hlw h3⟩⟩
          refine wp_region_held_drew (S := fun wx => wx.cell? ⟨w.heap.size + 1, 0, none⟩ = some (.string wf)) (by kernel_rfl) (HSS.out _ HD.out.1) (fun hS => ?_)
          refine wpAnyH_take (i := 0) (v := .pointer (some ⟨w.heap.size + 1, 0, none⟩)) rfl (by kernel_rfl) (by kernel_rfl) (by kernel_rfl) (fun _ _ _ h => h) (Or.inl ⟨by rfl, fun w hSw => by have s1 := hSw; go_simp⟩) hS ?_
          simp only [Act.put, List.getElem_toArray, List.getElem_cons_succ, List.getElem_cons_zero, List.setIfInBounds_toArray, List.set_cons_zero, List.set_cons_succ]
          refine wpAnyH_take (i := 1) (v := .string wf) rfl (by kernel_rfl) (by kernel_rfl) (by kernel_rfl) (fun _ _ _ h => h) (Or.inl ⟨by rfl, fun w hSw => by have s1 := hSw; go_simp⟩) hS ?_
          simp only [Act.put, List.getElem_toArray, List.getElem_cons_succ, List.getElem_cons_zero, List.setIfInBounds_toArray, List.set_cons_zero, List.set_cons_succ]
          refine wpAnyH_take (i := 2) (v := .slice lo L.length lc) rfl (by kernel_rfl) (by kernel_rfl) (by kernel_rfl) (fun _ _ _ h => h) (Or.inl ⟨by rfl, fun w hSw => by have s1 := hSw; go_simp⟩) hS ?_
          simp only [Act.put, List.getElem_toArray, List.getElem_cons_succ, List.getElem_cons_zero, List.setIfInBounds_toArray, List.set_cons_zero, List.set_cons_succ]
          refine wpAnyH_ready (rs := [3, 6]) (by kernel_rfl) (by simp) ?_
          refine AllReadyH.cons rfl (fun K hK => ?_) (AllReadyH.cons rfl (fun K hK => ?_) AllReadyH.nil)
          · go_simp
            refine (KS.out _ HD).mono ?_
            rintro e w9 ⟨rfl, h9, _⟩
            refine hK.out _ _ (HSS.out _ h9.out.1) (fun hS9 => ?_)
            clear hK K
            refine wpAnyH_take (i := 4) (v := .int .i64 BH) rfl (by kernel_rfl) (by kernel_rfl) (by kernel_rfl) (fun _ _ _ h => h) (Or.inl ⟨by rfl, fun w hSw => by have s1 := hSw; go_simp⟩) hS9 ?_
            simp only [Act.put, List.getElem_toArray, List.getElem_cons_succ, List.getElem_cons_zero, List.setIfInBounds_toArray, List.set_cons_zero, List.set_cons_succ]
            refine wpAnyH_take (i := 5) (v := .agg #[.bool false, .string ⟨#[]⟩, .int .i64 0, .string wf, .int .i64 BH, .int .i64 0, .bool false, .bool false, .int .i64 0, .int .i64 0, .int .i64 0, .string ⟨#[]⟩, .int .i64 0]) rfl (by kernel_rfl) (by kernel_rfl) (by kernel_rfl) (fun _ _ _ h => h) (Or.inl ⟨by rfl, fun w hSw => by have s1 := hSw; go_simp⟩) hS9 ?_
            simp only [Act.put, List.getElem_toArray, List.getElem_cons_succ, List.getElem_cons_zero, List.setIfInBounds_toArray, List.set_cons_zero, List.set_cons_succ]
            refine wpAnyH_ready (rs := [6]) (by kernel_rfl) (by simp) ?_
            refine AllReadyH.cons rfl (fun K hK => ?_) AllReadyH.nil
            go_simp
            obtain ⟨wz, hwz⟩ : ∃ wz, w9.alloc (.cells #[.bool false, .string ⟨#[]⟩, .int .i64 0, .string ⟨#[]⟩, .int .i64 0, .int .i64 0, .bool false, .bool false, .int .i64 0, .int .i64 0, .int .i64 0, .string ⟨#[]⟩, .int .i64 0] 83) = wz := ⟨_, rfl⟩
            obtain ⟨Q2, hQ2⟩ : ∃ Q2, w9.heap.size = Q2 := ⟨_, rfl⟩
            have HZ3 : Hid (wz.heap[Q2]? = some (.cells #[.bool false, .string ⟨#[]⟩, .int .i64 0, .string ⟨#[]⟩, .int .i64 0, .int .i64 0, .bool false, .bool false, .int .i64 0, .int .i64 0, .int .i64 0, .string ⟨#[]⟩, .int .i64 0] 83 (0, 0)) ∧ Jm w (pcmC p po pc) (waveC wf l wo wq) Q p wz ∧ Below w8.heap.size w8 wz ∧ w8.heap.size ≤ Q2) := by
              rw [← hwz, ← hQ2]
              exact ⟨heap_alloc_new w9 _, h9.out.1.next ((Below.refl _ _).alloc (Nat.le_refl _) _), h9.out.2.alloc h9.out.2.size _, h9.out.2.size⟩
            rw [hwz, hQ2]
            clear hwz hQ2
            refine hK.out _ _ (HSS.out _ HZ3.out.2.1) (fun hS10 => ?_)
            clear hK K
            refine wpAnyH_ready (rs := [7]) (by kernel_rfl) (by simp) ?_
            refine AllReadyH.cons rfl (fun K hK => ?_) AllReadyH.nil
            rw [if_pos (by rfl)]
            refine wp_store_row 83 (.tmp 12) (.tmp 47) rfl Q2 #[.bool false, .string ⟨#[]⟩, .int .i64 0, .string wf, .int .i64 BH, .int .i64 0, .bool false, .bool false, .int .i64 0, .int .i64 0, .int .i64 0, .string ⟨#[]⟩, .int .i64 0] rfl rfl 83 #[.bool false, .string ⟨#[]⟩, .int .i64 0, .string ⟨#[]⟩, .int .i64 0, .int .i64 0, .bool false, .bool false, .int .i64 0, .int .i64 0, .int .i64 0, .string ⟨#[]⟩, .int .i64 0] HZ3.out.1 infoFile rfl (by simp [Value.oneCell']) ?_
            refine hK.out _ _ (HSS.out _ (HNX.out _ _ HZ3.out.1 HZ3.out.2.1 HZ3.out.2.2.1 HZ3.out.2.2.2).1) (fun hS11 => ?_)
            clear hK K
            refine wpAnyH_done (by kernel_rfl) ?_ _
            go_wp2_with fail
            go_meet
            exact ⟨_, rfl, (HNX.out _ _ HZ3.out.1 HZ3.out.2.1 HZ3.out.2.2.1 HZ3.out.2.2.2).2⟩
          · go_simp
            have HA9 : Hid (Jm w (pcmC p po pc) (waveC wf l wo wq) Q p (w8.alloc (.cells #[.bool false, .string ⟨#[]⟩, .int .i64 0, .string ⟨#[]⟩, .int .i64 0, .int .i64 0, .bool false, .bool false, .int .i64 0, .int .i64 0, .int .i64 0, .string ⟨#[]⟩, .int .i64 0] 83)).drew ∧ Below w8.heap.size w8 (w8.alloc (.cells #[.bool false, .string ⟨#[]⟩, .int .i64 0, .string ⟨#[]⟩, .int .i64 0, .int .i64 0, .bool false, .bool false, .int .i64 0, .int .i64 0, .int .i64 0, .string ⟨#[]⟩, .int .i64 0] 83)).drew) := ⟨HM8.out.next ((Below.refl _ _).alloc (Nat.le_refl _) _).drew, ((Below.refl _ _).alloc (Nat.le_refl _) _).drew⟩
            have HZ9 : Hid ((w8.alloc (.cells #[.bool false, .string ⟨#[]⟩, .int .i64 0, .string ⟨#[]⟩, .int .i64 0, .int .i64 0, .bool false, .bool false, .int .i64 0, .int .i64 0, .int .i64 0, .string ⟨#[]⟩, .int .i64 0] 83)).drew.heap[w8.heap.size]? = some (.cells #[.bool false, .string ⟨#[]⟩, .int .i64 0, .string ⟨#[]⟩, .int .i64 0, .int .i64 0, .bool false, .bool false, .int .i64 0, .int .i64 0, .int .i64 0, .string ⟨#[]⟩, .int .i64 0] 83 (0, 0))) := heap_alloc_new w8 _
            refine hK.out _ _ (HSS.out _ HA9.out.1) (fun hS10 => ?_)
            clear hK K
            refine wpAnyH_ready (rs := [3]) (by kernel_rfl) (by simp) ?_
            refine AllReadyH.cons rfl (fun K hK => ?_) AllReadyH.nil
            go_simp
            refine (KS.out _ HA9).mono ?_
            rintro e wz ⟨rfl, h9, hb9⟩
            have HZA : Hid (wz.heap[w8.heap.size]? = some (.cells #[.bool false, .string ⟨#[]⟩, .int .i64 0, .string ⟨#[]⟩, .int .i64 0, .int .i64 0, .bool false, .bool false, .int .i64 0, .int .i64 0, .int .i64 0, .string ⟨#[]⟩, .int .i64 0] 83 (0, 0))) := below_box HZ9.out hb9.out
            refine hK.out _ _ (HSS.out _ h9.out.1) (fun hS9 => ?_)
            clear hK K HZ9 HA9
            refine wpAnyH_take (i := 4) (v := .int .i64 BH) rfl (by kernel_rfl) (by kernel_rfl) (by kernel_rfl) (fun _ _ _ h => h) (Or.inl ⟨by rfl, fun w hSw => by have s1 := hSw; go_simp⟩) hS9 ?_
            simp only [Act.put, List.getElem_toArray, List.getElem_cons_succ, List.getElem_cons_zero, List.setIfInBounds_toArray, List.set_cons_zero, List.set_cons_succ]
            refine wpAnyH_take (i := 5) (v := .agg #[.bool false, .string ⟨#[]⟩, .int .i64 0, .string wf, .int .i64 BH, .int .i64 0, .bool false, .bool false, .int .i64 0, .int .i64 0, .int .i64 0, .string ⟨#[]⟩, .int .i64 0]) rfl (by kernel_rfl) (by kernel_rfl) (by kernel_rfl) (fun _ _ _ h => h) (Or.inl ⟨by rfl, fun w hSw => by have s1 := hSw; go_simp⟩) hS9 ?_
            simp only [Act.put, List.getElem_toArray, List.getElem_cons_succ, List.getElem_cons_zero, List.setIfInBounds_toArray, List.set_cons_zero, List.set_cons_succ]
            obtain ⟨Q2, hQ2⟩ : ∃ Q2, w8.heap.size = Q2 := ⟨_, rfl⟩
            have HZ3 : Hid (wz.heap[Q2]? = some (.cells #[.bool false, .string ⟨#[]⟩, .int .i64 0, .string ⟨#[]⟩, .int .i64 0, .int .i64 0, .bool false, .bool false, .int .i64 0, .int .i64 0, .int .i64 0, .string ⟨#[]⟩, .int .i64 0] 83 (0, 0)) ∧ Jm w (pcmC p po pc) (waveC wf l wo wq) Q p wz ∧ Below w8.heap.size w8 wz ∧ w8.heap.size ≤ Q2) := ⟨by rw [← hQ2]; exact HZA.out, h9.out.1, h9.out.2, by omega⟩
            rw [hQ2]
            clear hQ2
            refine wpAnyH_ready (rs := [7]) (by kernel_rfl) (by simp) ?_
            refine AllReadyH.cons rfl (fun K hK => ?_) AllReadyH.nil
            rw [if_pos (by rfl)]
            refine wp_store_row 83 (.tmp 12) (.tmp 47) rfl Q2 #[.bool false, .string ⟨#[]⟩, .int .i64 0, .string wf, .int .i64 BH, .int .i64 0, .bool false, .bool false, .int .i64 0, .int .i64 0, .int .i64 0, .string ⟨#[]⟩, .int .i64 0] rfl rfl 83 #[.bool false, .string ⟨#[]⟩, .int .i64 0, .string ⟨#[]⟩, .int .i64 0, .int .i64 0, .bool false, .bool false, .int .i64 0, .int .i64 0, .int .i64 0, .string ⟨#[]⟩, .int .i64 0] HZ3.out.1 infoFile rfl (by simp [Value.oneCell']) ?_
            refine hK.out _ _ (HSS.out _ (HNX.out _ _ HZ3.out.1 HZ3.out.2.1 HZ3.out.2.2.1 HZ3.out.2.2.2).1) (fun hS11 => ?_)
            clear hK K
            refine wpAnyH_done (by kernel_rfl) ?_ _
            go_wp2_with fail
            go_meet
            exact ⟨_, rfl, (HNX.out _ _ HZ3.out.1 HZ3.out.2.1 HZ3.out.2.2.1 HZ3.out.2.2.2).2⟩
        case rest =>
          obtain ⟨b, rfl, hj⟩ := hcut
          have HN : Hid (Jn w (pcmC p po pc) (waveC wf l wo wq) Q p b (fB wf L) lo L wc) := hj
          have kh := head_spec (fB wf L) b wc HN.out.fa HF.out.2 (by show -9223372036854775808 ≤ 4 + (sizeL L : Int); omega) (by show 4 + (sizeL L : Int) ≤ 9223372036854775807; omega)
          have HHS : Hid ((headN (fB wf L)).2 = true → (headN (fB wf L)).1.size ≤ 16) := headN_size _
          clear hj HM8 HC8 hwr
          go_wp2_with fail
          refine kh.mono ?_
          rintro e w10 ⟨rfl, hB10⟩
          have HN10 : Hid (Jn w (pcmC p po pc) (waveC wf l wo wq) Q p b (fB wf L) lo L w10) := HN.out.next hB10
          clear kh hB10 HN
          cases hok : (headN (fB wf L)).2
          · have HE : Hid (bldE p wf l = 60) := HBE2.out.trans (by rw [hok]; rfl)
            have HT : Hid (bldT p wf l = ⟨#[]⟩) := HBT.out.trans (if_neg (by rw [HE.out]; decide))
            clear HBE2 HBT
            generalize (headN (fB wf L)).1 = HD1 at *
            go_wp2_with fail
            go_ret2
            exact ⟨by rw [HE.out, HT.out]; rfl, HN10.out.m.z.below⟩
          · have kha := has_spec (fB wf L) L (sndP p) lo lc b w10 HN10.out.fa ⟨fun h => (by cases h), fun h => (by cases h)⟩ (by show (0 : Int) ≤ 0; decide) (by show (0 : Int) + _ ≤ 2000; omega) (by show (0 : Nat) ≤ _; omega) HN10.out.ch hl24b (fun c hc => (HFL.out c hc).2) (fun b' off q => by have := HN10.out.ne b' off q; omega)
            have q0 := HN10.out.m.s 0 _ rfl
            have q1 := HN10.out.m.s 1 _ rfl
            have q2 := HN10.out.m.s 2 _ rfl
            rw [hok] at HBE2
            have HHZ : Hid ((headN (fB wf L)).1.size ≤ 16) := HHS.out hok
            have HKP : Hid ((hasN (fB wf L) L).1.behind = 4 + (sizeL L : Int)) := (hasN_keep L (fB wf L)).1
            generalize (headN (fB wf L)).1 = HD1 at *
            generalize (hasN (fB wf L) L).1 = G at *
            clear HHS hok
            cases hhb : hasB (fB wf L) L (sndP p)
            · have HE : Hid (bldE p wf l = 60) := HBE2.out.trans (by rw [hhb]; rfl)
              have HT : Hid (bldT p wf l = ⟨#[]⟩) := HBT.out.trans (if_neg (by rw [HE.out]; decide))
              rw [hhb] at kha
              clear HBE2 HBT
              go_wp2_with fail
              refine kha.mono ?_
              rintro e w11 ⟨rfl, hf11, hb11⟩
              have HN11 : Hid (Jn w (pcmC p po pc) (waveC wf l wo wq) Q p b G lo L w11) := HN10.out.step hf11 hb11
              clear kha hf11 hb11 HN10 q0 q1 q2
              go_wp2_with fail
              go_ret2
              exact ⟨by rw [HE.out, HT.out]; rfl, HN11.out.m.z.below⟩
            · rw [hhb] at kha HBE2
              go_wp2_with fail
              refine kha.mono ?_
              rintro e w11 ⟨rfl, hf11, hb11⟩
              have HN11 : Hid (Jn w (pcmC p po pc) (waveC wf l wo wq) Q p b G lo L w11) := HN10.out.step hf11 hb11
              clear kha hf11 hb11 HN10 q0 q1 q2
              have c4 : w11.cell? ⟨b, 4, none⟩ = some (.int .i64 (4 + (sizeL L : Int))) := by rw [HN11.out.fa.c 4 _ rfl, ← HKP.out]; rfl
              by_cases hbig : 67108864 < 4 + (sizeL L : Int) + 8
              · have HE : Hid (bldE p wf l = 5) := HBE2.out.trans (if_pos hbig)
                have HT : Hid (bldT p wf l = ⟨#[]⟩) := HBT.out.trans (if_neg (by rw [HE.out]; decide))
                clear HBE2 HBT
                go_wp2_with fail
                go_ret2
                exact ⟨by rw [HE.out, HT.out]; rfl, HN11.out.m.z.below⟩
              · have HE : Hid (bldE p wf l = 0) := HBE2.out.trans (if_neg hbig)
                have HT : Hid (bldT p wf l = textOf (bytesOf HD1 ++ layZ G.z L)) := HBT.out.trans (if_pos HE.out)
                have c0 := HN11.out.fa.c 0 _ rfl
                have c1 := HN11.out.fa.c 1 _ rfl
                have c2 := HN11.out.fa.c 2 _ rfl
                have kly := lay_spec G.z HD1 L lo lc w11 HN11.out.ch HFL.out hst (by have := HHZ.out; omega)
                have hbig2 : decide (67108864 < 4 + (sizeL L : Int) + 8) = false := decide_eq_false hbig
                clear HBE2 HBT hbig
                generalize textOf (bytesOf HD1 ++ layZ G.z L) = TX at *
                go_upto_region 15 with fail
                clear hbig2 c4 hle
                go_wp2_with fail
                refine kly.mono ?_
                rintro e w12 ⟨rfl, hB12⟩
                have HB12 : Hid (Below w.heap.size w w12) := HN11.out.m.z.below.trans (hB12.mono HN11.out.m.z.below.size)
                clear kly hB12 c0 c1 c2
                go_wp2_with fail
                go_ret2
                exact ⟨by rw [HE.out, HT.out]; rfl, HB12.out⟩
    · have HE : Hid (bldE p wf l = 60) := HBE2.out.trans (by rw [hfb]; rfl)
      have HT : Hid (bldT p wf l = ⟨#[]⟩) := HBT.out.trans (if_neg (by rw [HE.out]; decide))
      clear HBE2 HBT hfb
      go_wp2_with fail
      go_ret2
      exact ⟨by rw [HE.out, HT.out]; rfl, HM7.out.z.below⟩
  · have HE : Hid (bldE p wf l = fitsN 1 p) := HBE.out.trans (if_neg (by simpa using hE))
    have HT : Hid (bldT p wf l = ⟨#[]⟩) := HBT.out.trans (by rw [HE.out, if_neg (by simpa using hE)])
    clear HBE HBT
    generalize fitsN 1 p = E at *
    go_wp2_with fail
    go_ret2
    exact ⟨by rw [HE.out, HT.out]; rfl, HJ2.out.below⟩

end Go.Proofs.YtfnkdahocehilaaGreat
