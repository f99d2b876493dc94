/- Own text: the walk of has. the walk of Chunks. -/
import Derived.Test.YtfnkdahocehilaaGreatG27x
import Derived.Test.YtfnkdahocehilaaGreatG22x
import Derived.Test.YtfnkdahocehilaaGreatR6chunks
import Derived.WalkMore
import Derived.ScopeJumps
namespace Go.Proofs.YtfnkdahocehilaaGreat
open Go.RowKit
set_option linter.unusedSimpArgs false
set_option linter.unusedVariables false

/-- has' round: the file so far, the sound's box. -/
structure Jh (w0 : World) (b : Nat) (f : Fst) (a : Snd) (w : World) : Prop where
  fa : Fa b f w
  ab : w.heap[w0.heap.size]? = some (.cells (sndC a) 73 (0, 0))
  lo : b < w0.heap.size
  but : But b w0 w
theorem Jh.new {w : World} {b : Nat} {f : Fst} (h : Fa b f w) (a : Snd) : Jh w b f a (w.alloc (.cells (sndC a) 73)) :=
  have hB : Below w.heap.size w (w.alloc (.cells (sndC a) 73)) := (Below.refl _ _).alloc (Nat.le_refl _) _
  ⟨h.next hB, heap_alloc_new w _, h.lt, But.below hB⟩
theorem Jh.next {w0 w w1 : World} {b : Nat} {f : Fst} {a : Snd} (h : Jh w0 b f a w) (hB : Below w.heap.size w w1) : Jh w0 b f a w1 :=
  ⟨h.fa.next hB, by rw [hB.block _ (lt_of_block h.ab)]; exact h.ab, h.lo, h.but.trans (But.below hB)⟩
theorem Jh.step {w0 w w1 : World} {b : Nat} {f g : Fst} {a : Snd} (h : Jh w0 b f a w) (hf : Fa b g w1) (hB : But b w w1) : Jh w0 b g a w1 :=
  ⟨hf, by rw [hB.block _ (lt_of_block h.ab) (fun q => by have h1 := h.lo; have h2 : w0.heap.size = b := by simpa using q
                                                         omega)]; exact h.ab, h.lo, h.but.trans hB⟩
theorem Jh.s {w0 w : World} {b : Nat} {f : Fst} {a : Snd} (h : Jh w0 b f a w) (j : Nat) (v : Value) (hv : (sndC a)[j]? = some v) : w.cell? ⟨w0.heap.size, j, none⟩ = some v := by rw [cell_of_row _ _ _ _ _ _ h.ab]; exact hv
abbrev MM : Nat := 140737488351232

set_option maxRecDepth 20000 in
set_option maxHeartbeats 6400000 in
theorem has_spec (f : Fst) (l : List Chk) (a : Snd) (ao : Option Addr) (cap b : Nat) (w : World) (h : Fa b f w) (hok : OkF f) (hs0 : 0 ≤ f.seen) (hs1 : f.seen + l.length ≤ 2000) (hsm : f.smp.size ≤ MM) (hl : ChksAt w ao l) (hll : l.length ≤ 1024) (hbd : ∀ c ∈ l, c.body.size ≤ MM) (hne : ∀ b' off, ao = some ⟨b', off, none⟩ → b' ≠ b) :
    Calls Tryz.prog 40 #[.pointer (some ⟨b, 0, none⟩), .slice ao l.length cap, sndV a] w fun e w' => e = .returned (.bool (hasB f l a)) ∧ Fa b (hasN f l).1 w' ∧ But b w w' := by
  have HJ0 : Hid (Jh w b f a (w.alloc (.cells (sndC a) 73))) := Jh.new h a
  have HL : Hid (ChksAt w ao l) := hl
  have HNE : Hid (∀ b' off, ao = some ⟨b', off, none⟩ → b' ≠ b) := hne
  have HBD : Hid (∀ c ∈ l, c.body.size ≤ MM) := hbd
  have HOK : Hid (OkF f) := hok
  have HSM : Hid (f.smp.size ≤ MM) := hsm
  have HHB : Hid (hasB f l a = ((hasN f l).2 && (endN (hasN f l).1 == 0 && sndB (hasN f l).1.a a))) := rfl
  clear h hok hsm hl hne hbd
  go_enter Tryz.func40, Tryz.ntmps40
  go_wp2_with fail
  go_loopw [11] (fun t wr => ∃ (k : Nat) (fk : Fst), k ≤ l.length ∧ t = .int .i64 (k : Int) ∧ hasN f l = hasN fk (l.drop k) ∧ Jh w b fk a wr ∧ OkF fk ∧ fk.seen = f.seen + k ∧ fk.smp.size ≤ MM) (fun t _ => l.length - (intOf t).toNat)
  case atStart => exact ⟨0, f, Nat.zero_le _, rfl, rfl, HJ0.out, HOK.out, by omega, HSM.out⟩
  case round =>
    clear HJ0 HOK HSM
    obtain ⟨k, fk, hk, rfl, hN, hJ, hokk, hseen, hsmk⟩ := hrel
    have HN : Hid (hasN f l = hasN fk (l.drop k)) := hN
    have HJ : Hid (Jh w b fk a wr) := hJ
    have HOK : Hid (OkF fk) := hokk
    have HSM : Hid (fk.smp.size ≤ MM) := hsmk
    have HSE : Hid (fk.seen = f.seen + k) := hseen
    have hse0 : 0 ≤ fk.seen := by omega
    have hse1 : fk.seen ≤ 2000 := by omega
    clear hN hJ hokk hsmk hseen
    by_cases hlt : k < l.length
    · obtain ⟨c, hc⟩ : ∃ c, l[k]? = some c := ⟨_, List.getElem?_eq_getElem hlt⟩
      have hcm : c ∈ l := List.mem_of_getElem? hc
      have hdr : l.drop k = c :: l.drop (k + 1) := by
        obtain ⟨q1, q2⟩ := List.getElem?_eq_some_iff.1 hc
        rw [List.drop_eq_getElem_cons q1, q2]
      have hlw : ChksAt wr ao l := HL.out.keep HJ.out.but HNE.out
      obtain ⟨b', off, rfl, hcl⟩ := hlw.at k c hc
      obtain ⟨x0, x1, x2⟩ := hcl wr (Below.refl _ _)
      have kt := take_spec fk c hse0 hse1 (HBD.out c hcm) b (wr.alloc (.cells (chkC c) 52)) (HJ.out.fa.next ((Below.refl _ _).alloc (Nat.le_refl _) _))
      have HJa : Hid (Jh w b fk a (wr.alloc (.cells (chkC c) 52))) := HJ.out.next ((Below.refl _ _).alloc (Nat.le_refl _) _)
      have HOK2 : Hid ((takeN fk c).2 = 0 → OkF (takeN fk c).1) := fun q => takeN_ok fk c HOK.out q
      have HSM2 : Hid ((takeN fk c).1.smp.size ≤ MM) := takeN_smp fk c MM HSM.out (HBD.out c hcm)
      have HSE2 : Hid ((takeN fk c).1.seen = f.seen + ((k + 1 : Nat) : Int)) := by
        show _ = _
        rw [takeN_seen, HSE.out]
        omega
      have HY : Hid ((takeN fk c).2 = 0 → hasN f l = hasN (takeN fk c).1 (l.drop (k + 1))) := fun q => by rw [HN.out, hdr, hasN_yes _ _ _ q]
      have HNO : Hid (¬ (takeN fk c).2 = 0 → hasN f l = ((takeN fk c).1, false)) := fun q => by rw [HN.out, hdr, hasN_no _ _ _ q]
      clear hcl hc hcm hdr hlw HN HJ HOK HSM HSE
      generalize (takeN fk c).1 = g at *
      generalize (takeN fk c).2 = E at *
      cases hE : E != 0
      · have hE0 : E = 0 := by simpa using hE
        have HYY := HY.out hE0
        have HOO := HOK2.out hE0
        have HY2 : Hid (hasN f l = hasN g (l.drop (k + 1))) := HYY
        have HO2 : Hid (OkF g) := HOO
        clear HY HNO HOK2 HYY HOO hE0
        go_wp2_with fail
        refine kt.mono ?_
        rintro e w3 ⟨rfl, hf3, hb3⟩
        have HJ3 : Hid (Jh w b g a w3) := HJa.out.step hf3 hb3
        clear kt hf3 hb3 HJa x0 x1 x2
        go_wp2_with fail
        go_roundw
        case rel => exact ⟨k + 1, g, by omega, by go_num, HY2.out, HJ3.out, HO2.out, HSE2.out, HSM2.out⟩
        case measure => simp [intOf]; omega
      · have HN2 : Hid (hasN f l = (g, false)) := HNO.out (by simpa using hE)
        clear HY HNO HOK2
        go_wp2_with fail
        refine kt.mono ?_
        rintro e w3 ⟨rfl, hf3, hb3⟩
        have HJ3 : Hid (Jh w b g a w3) := HJa.out.step hf3 hb3
        clear kt hf3 hb3 HJa x0 x1 x2
        go_wp2_with fail
        go_ret
        exact ⟨by rw [HHB.out, HN2.out]; rfl, by rw [HN2.out]; exact HJ3.out.fa, HJ3.out.but⟩
    · have HE : Hid (hasN f l = (fk, true)) := HN.out.trans (by rw [List.drop_eq_nil_of_le (by omega)]; rfl)
      have KE : Hid (∀ wx, Hid (Jh w b fk a wx) → Calls Tryz.prog 75 #[.pointer (some ⟨b, 0, none⟩)] wx fun e w' => e = .returned (.int .i64 (endN fk)) ∧ Hid (Jh w b fk a w')) := fun wx hx =>
        (end_spec fk b wx hx.out.fa HOK.out HSM.out).mono fun e w' q => ⟨q.1, hx.out.next q.2⟩
      have HS : Hid (∀ wx, Hid (Jh w b fk a wx) → wx.cell? ⟨b, 8, none⟩ = some (.int .i64 fk.a.rate) ∧ wx.cell? ⟨b, 9, none⟩ = some (.int .i64 fk.a.ch) ∧ wx.cell? ⟨b, 10, none⟩ = some (.int .i64 fk.a.wd) ∧ wx.cell? ⟨w.heap.size, 0, none⟩ = some (.int .i64 a.rate) ∧ wx.cell? ⟨w.heap.size, 1, none⟩ = some (.int .i64 a.ch) ∧ wx.cell? ⟨w.heap.size, 2, none⟩ = some (.int .i64 a.wd)) := fun wx hx => ⟨hx.out.fa.c 8 _ rfl, hx.out.fa.c 9 _ rfl, hx.out.fa.c 10 _ rfl, hx.out.s 0 _ rfl, hx.out.s 1 _ rfl, hx.out.s 2 _ rfl⟩
      have HD : Hid (Jh w b fk a wr.drew) := HJ.out.next ⟨rfl, rfl, rfl, Nat.le_refl _, fun _ _ => rfl⟩
      have HHB2 : Hid (hasB f l a = (endN fk == 0 && sndB fk.a a)) := HHB.out.trans (by rw [HE.out]; rfl)
      have heq := eq_snd fk.a a
      have heql := eql_snd fk.a a
      generalize sndB fk.a a = SB at *
      clear HN HJ HOK HSM HSE HHB
      cases hE : endN fk == 0
      · rw [hE] at HHB2
        generalize endN fk = E at *
        go_wp2_with fail
        refine wp_region_held_drew (S := fun _ => True) (by kernel_rfl) (trivial) (fun hS => ?_)
        refine wpAnyH_take (i := 0) (v := .pointer (some ⟨b, 0, none⟩)) rfl (by kernel_rfl) (by kernel_rfl) (by kernel_rfl) (fun _ _ _ h => h) (Or.inl ⟨by rfl, fun w hSw => by go_simp⟩) hS ?_
        simp only [Act.put, List.getElem_toArray, List.getElem_cons_succ, List.getElem_cons_zero, List.setIfInBounds_toArray, List.set_cons_zero, List.set_cons_succ]
        refine wpAnyH_ready (rs := [1]) (by kernel_rfl) (by simp) ?_
        refine AllReadyH.cons rfl (fun K hK => ?_) AllReadyH.nil
        go_simp
        refine (KE.out _ HD).mono ?_
        rintro e w4 ⟨rfl, h4⟩
        refine hK.out _ _ (trivial) (fun hS1 => ?_)
        clear hK K
        refine wpAnyH_take (i := 2) (v := .bool false) rfl (by kernel_rfl) (by kernel_rfl) (by kernel_rfl) (fun _ _ _ h => h) (Or.inl ⟨by rfl, fun w hSw => by go_simp⟩) hS1 ?_
        simp only [Act.put, List.getElem_toArray, List.getElem_cons_succ, List.getElem_cons_zero, List.setIfInBounds_toArray, List.set_cons_zero, List.set_cons_succ]
        refine wpAnyH_take (i := 3) (v := .bool false) rfl (by kernel_rfl) (by kernel_rfl) (by kernel_rfl) (fun _ _ _ h => h) (Or.inl ⟨by rfl, fun w hSw => by go_simp⟩) hS1 ?_
        simp only [Act.put, List.getElem_toArray, List.getElem_cons_succ, List.getElem_cons_zero, List.setIfInBounds_toArray, List.set_cons_zero, List.set_cons_succ]
        refine wpAnyH_take (i := 4) (v := undef) rfl (by kernel_rfl) (by kernel_rfl) (by kernel_rfl) (fun _ _ _ h => h) (Or.inr ⟨by rfl, rfl⟩) hS1 ?_
        simp only [Act.put, List.getElem_toArray, List.getElem_cons_succ, List.getElem_cons_zero, List.setIfInBounds_toArray, List.set_cons_zero, List.set_cons_succ]
        refine wpAnyH_take (i := 5) (v := undef) rfl (by kernel_rfl) (by kernel_rfl) (by kernel_rfl) (fun _ _ _ h => h) (Or.inr ⟨by rfl, rfl⟩) hS1 ?_
        simp only [Act.put, List.getElem_toArray, List.getElem_cons_succ, List.getElem_cons_zero, List.setIfInBounds_toArray, List.set_cons_zero, List.set_cons_succ]
        refine wpAnyH_take (i := 6) (v := undef) rfl (by kernel_rfl) (by kernel_rfl) (by kernel_rfl) (fun _ _ _ h => h) (Or.inr ⟨by rfl, rfl⟩) hS1 ?_
        simp only [Act.put, List.getElem_toArray, List.getElem_cons_succ, List.getElem_cons_zero, List.setIfInBounds_toArray, List.set_cons_zero, List.set_cons_succ]
        refine wpAnyH_take (i := 7) (v := undef) rfl (by kernel_rfl) (by kernel_rfl) (by kernel_rfl) (fun _ _ _ h => h) (Or.inr ⟨by rfl, rfl⟩) hS1 ?_
        simp only [Act.put, List.getElem_toArray, List.getElem_cons_succ, List.getElem_cons_zero, List.setIfInBounds_toArray, List.set_cons_zero, List.set_cons_succ]
        refine wpAnyH_take (i := 8) (v := undef) rfl (by kernel_rfl) (by kernel_rfl) (by kernel_rfl) (fun _ _ _ h => h) (Or.inr ⟨by rfl, rfl⟩) hS1 ?_
        simp only [Act.put, List.getElem_toArray, List.getElem_cons_succ, List.getElem_cons_zero, List.setIfInBounds_toArray, List.set_cons_zero, List.set_cons_succ]
        refine wpAnyH_take (i := 9) (v := undef) rfl (by kernel_rfl) (by kernel_rfl) (by kernel_rfl) (fun _ _ _ h => h) (Or.inr ⟨by rfl, rfl⟩) hS1 ?_
        simp only [Act.put, List.getElem_toArray, List.getElem_cons_succ, List.getElem_cons_zero, List.setIfInBounds_toArray, List.set_cons_zero, List.set_cons_succ]
        refine wpAnyH_take (i := 10) (v := .bool false) rfl (by kernel_rfl) (by kernel_rfl) (by kernel_rfl) (fun _ _ _ h => h) (Or.inl ⟨by rfl, fun w hSw => by go_simp⟩) hS1 ?_
        simp only [Act.put, List.getElem_toArray, List.getElem_cons_succ, List.getElem_cons_zero, List.setIfInBounds_toArray, List.set_cons_zero, List.set_cons_succ]
        refine wpAnyH_take (i := 11) (v := .bool false) rfl (by kernel_rfl) (by kernel_rfl) (by kernel_rfl) (fun _ _ _ h => h) (Or.inl ⟨by rfl, fun w hSw => by go_simp⟩) hS1 ?_
        simp only [Act.put, List.getElem_toArray, List.getElem_cons_succ, List.getElem_cons_zero, List.setIfInBounds_toArray, List.set_cons_zero, List.set_cons_succ]
        refine wpAnyH_done (by kernel_rfl) ?_ _
        go_wp2_with fail
        go_ret
        exact ⟨by rw [HHB2.out]; rfl, by rw [HE.out]; exact h4.out.fa, h4.out.but⟩
      · rw [hE] at HHB2
        have hE0 : endN fk = 0 := by simpa using hE
        rw [hE0] at KE
        clear hE hE0
        go_wp2_with fail
        go_region_held3 (fun wx => wx.cell? ⟨b, 8, none⟩ = some (.int .i64 fk.a.rate) ∧ wx.cell? ⟨b, 9, none⟩ = some (.int .i64 fk.a.ch) ∧ wx.cell? ⟨b, 10, none⟩ = some (.int .i64 fk.a.wd) ∧ wx.cell? ⟨w.heap.size, 0, none⟩ = some (.int .i64 a.rate) ∧ wx.cell? ⟨w.heap.size, 1, none⟩ = some (.int .i64 a.ch) ∧ wx.cell? ⟨w.heap.size, 2, none⟩ = some (.int .i64 a.wd)) (exact HS.out _ (by assumption))
          ((go_at_call 75; refine (KE.out _ (by assumption)).mono ?_; rintro e w4 ⟨rfl, h4⟩))
        go_wp2_with fail
        go_ret
        exact ⟨by rw [HHB2.out]; rfl, by rw [HE.out]; exact h4.out.fa, h4.out.but⟩

end Go.Proofs.YtfnkdahocehilaaGreat

namespace Go.Proofs.YtfnkdahocehilaaGreat
open Go.RowKit
set_option linter.unusedSimpArgs false
set_option linter.unusedVariables false

theorem wp_scope_round {P : Program} {Q : Exit → Act → World → Prop} {a : Act} {w : World} {c rest : Code} (l : Nat) (J : Act → World → Prop) (μ : Act → World → Nat) (hf : findLabel c l = some (Code.skip.seq rest))
    (pass : ∀ a w, J a w → rest.wp P (Exit.jump l (fun a' w' => J a' w' ∧ μ a' w' < μ a w) Q) a w)
    (first : (∀ a w, J a w → rest.wp P (Exit.jump l J Q) a w) → c.wp P (Exit.jump l J Q) a w) : (Code.scope c).wp P Q a w := by
  refine wp_scope_jumps l J μ hf (first fun a w h => ?_) (fun a w h => wp_seq (wp_skip (pass a w h)))
  refine wp_mono (pass a w h) fun e a' w' hq => ?_
  cases e with
  | goto l' => exact ⟨hq.1, hq.2.1⟩
  | _ => exact hq
def strSz : Value → Nat
  | .string s => s.size
  | _ => 0
/-- The chunks that a text is, behind those that were read. -/
def chunkN : Nat → Siz → List Chk → ByteArray → List Chk × Int
  | 0, _, l, _ => (l, 0)
  | n + 1, z, l, s => if s.size = 0 then (l, 0) else if begB z s = true then (if 1024 ≤ l.length then ([], 5) else chunkN n z (l ++ [begC z s]) (begR z s)) else ([], 2)
theorem chunkN_end (n : Nat) (z : Siz) (l : List Chk) (s : ByteArray) (h : s.size = 0) : chunkN (n + 1) z l s = (l, 0) := by rw [chunkN, if_pos h]
theorem chunkN_bad (n : Nat) (z : Siz) (l : List Chk) (s : ByteArray) (h : ¬ s.size = 0) (hb : begB z s = false) : chunkN (n + 1) z l s = ([], 2) := by rw [chunkN, if_neg h, hb]; rfl
theorem chunkN_many (n : Nat) (z : Siz) (l : List Chk) (s : ByteArray) (h : ¬ s.size = 0) (hb : begB z s = true) (hl : 1024 ≤ l.length) : chunkN (n + 1) z l s = ([], 5) := by rw [chunkN, if_neg h, if_pos hb, if_pos hl]
theorem chunkN_step (n : Nat) (z : Siz) (l : List Chk) (s : ByteArray) (h : ¬ s.size = 0) (hb : begB z s = true) (hl : ¬ 1024 ≤ l.length) : chunkN (n + 1) z l s = chunkN n z (l ++ [begC z s]) (begR z s) := by rw [chunkN, if_neg h, if_pos hb, if_neg hl]
theorem begR_size (z : Siz) (s : ByteArray) (h : begB z s = true) : (begR z s).size + 8 ≤ s.size := by
  have := begN_le z s h
  unfold begR
  rw [ext_size _ _ _ this.2 (Nat.le_refl _)]
  omega
theorem begC_sizes (z : Siz) (s : ByteArray) : (begC z s).id.size ≤ s.size ∧ (begC z s).body.size ≤ s.size := by
  refine ⟨?_, ?_⟩
  · show (s.extract 0 4).size ≤ _
    rw [ByteArray.size_extract]
    omega
  · show (s.extract 8 _).size ≤ _
    rw [ByteArray.size_extract]
    omega

set_option maxRecDepth 20000 in
set_option maxHeartbeats 6400000 in
theorem chunks_spec (s : ByteArray) (big : Bool) (w : World) (hs : s.size ≤ 140737488351232) :
    Calls Tryz.prog 6 #[.string s, .bool big] w fun e w' => ∃ ao cap, e = .returned (.tuple #[.slice ao (chunkN (s.size + 1) ⟨big, ⟨#[]⟩, 0⟩ [] s).1.length cap, .int .i64 (chunkN (s.size + 1) ⟨big, ⟨#[]⟩, 0⟩ [] s).2]) ∧ ChksAt w' ao (chunkN (s.size + 1) ⟨big, ⟨#[]⟩, 0⟩ [] s).1 ∧ Below w.heap.size w w' := by
  have HG0 : Hid (Gc w noS [] w) := ⟨World.ownsRow_nil _ _ _ _, Below.refl _ _⟩
  obtain ⟨R, hR⟩ : ∃ R, chunkN (s.size + 1) ⟨big, ⟨#[]⟩, 0⟩ [] s = R := ⟨_, rfl⟩
  have HR0 : Hid (R = chunkN (s.size + 1) ⟨big, ⟨#[]⟩, 0⟩ [] s) := hR.symm
  rw [hR]
  clear hR
  obtain ⟨iK, hK0, hK1, hK2, hK3⟩ := info_parts5 infoK3
  have HIK : Hid (Tryz.prog.info? 52 = some iK ∧ iK.zero = some (.agg zeroK) ∧ iK.size = 3 ∧ iK.bytes = 40) := ⟨hK0, hK1, hK2, hK3⟩
  clear hK0 hK1 hK2 hK3
  go_enter Tryz.func6, Tryz.ntmps6
  go_wp2_with fail
  refine wp_scope_round 0 (fun a' wr => ∃ (s' : ByteArray) (g : Value) (acc : List Chk) (fuel : Nat) (u7 u8 u9 u10 u11 u12 u13 u14 u15 u16 u17 u18 u19 u20 u21 u22 u23 u24 u25 u26 u27 u28 u29 u30 u31 : Value), a' = { tmps := #[.string s', .bool big, undef, undef, .slice none 0 0, .int .i64 0, g, u7, u8, u9, u10, u11, u12, u13, u14, u15, u16, u17, u18, u19, u20, u21, u22, u23, u24, u25, u26, u27, u28, u29, u30, u31], defers := [] } ∧ s'.size ≤ 140737488351232 ∧ s'.size ≤ fuel ∧ acc.length ≤ 1024 ∧ R = chunkN (fuel + 1) ⟨big, ⟨#[]⟩, 0⟩ acc s' ∧ Gc w g acc wr) (fun a' _ => strSz (a'.tmps.getD 0 undef)) rfl ?_ ?_
  · rintro a' wr ⟨s', g, acc, fuel, u7, u8, u9, u10, u11, u12, u13, u14, u15, u16, u17, u18, u19, u20, u21, u22, u23, u24, u25, u26, u27, u28, u29, u30, u31, rfl, hs', hf, hal, hR, hg⟩
    obtain ⟨va, vc, rfl⟩ := hg.shape
    have HR : Hid (R = chunkN (fuel + 1) ⟨big, ⟨#[]⟩, 0⟩ acc s') := hR
    have HG : Hid (Gc w (.slice va acc.length vc) acc wr) := hg
    clear hR hg HR0 HG0
    by_cases h0 : s'.size = 0
    · have he := isEmpty_true s' h0
      have HE : Hid (R = (acc, 0)) := HR.out.trans (chunkN_end _ _ _ _ h0)
      obtain ⟨ao, cap, hv, hat⟩ := ChksAt.own HG.out.own
      have HAT : Hid (ChksAt wr ao acc) := hat
      have HBL : Hid (Below w.heap.size w wr) := HG.out.below
      cases hv
      clear hat HG HR
      go_wp2_with fail
      simp only [Exit.jump]
      go_ret2
      exact ⟨va, vc, by rw [HE.out]; rfl, by rw [HE.out]; exact HAT.out, HBL.out⟩
    · have he := isEmpty_false s' (by omega)
      cases hb : begB ⟨big, ⟨#[]⟩, 0⟩ s'
      · have ko := begin_no ⟨big, ⟨#[]⟩, 0⟩ s' (acc.length : Int) wr hs' hb
        have HE : Hid (R = ([], 2)) := HR.out.trans (chunkN_bad _ _ _ _ h0 hb)
        clear HR hb
        go_wp2_with fail
        refine ko.mono ?_
        rintro e w2 ⟨rfl, hB⟩
        have HB : Hid (Below w.heap.size w w2) := HG.out.below.trans (hB.mono HG.out.below.size)
        clear ko hB
        go_wp2_with fail
        simp only [Exit.jump]
        go_ret2
        exact ⟨none, 0, by rw [HE.out]; rfl, by rw [HE.out]; exact ChksAt.nil _ _, HB.out.alloc HB.out.size _⟩
      · by_cases h1024 : 1024 ≤ acc.length
        · have ko := begin_full ⟨big, ⟨#[]⟩, 0⟩ s' (acc.length : Int) wr hs' hb (by omega)
          have HE : Hid (R = ([], 5)) := HR.out.trans (chunkN_many _ _ _ _ h0 hb h1024)
          clear HR hb
          go_wp2_with fail
          refine ko.mono ?_
          rintro e w2 ⟨rfl, hB⟩
          have HB : Hid (Below w.heap.size w w2) := HG.out.below.trans (hB.mono HG.out.below.size)
          clear ko hB
          go_wp2_with fail
          simp only [Exit.jump]
          go_ret2
          exact ⟨none, 0, by rw [HE.out]; rfl, by rw [HE.out]; exact ChksAt.nil _ _, HB.out.alloc HB.out.size _⟩
        · have ko := begin_yes ⟨big, ⟨#[]⟩, 0⟩ s' (acc.length : Int) wr hs' hb (by omega)
          have HE : Hid (R = chunkN fuel ⟨big, ⟨#[]⟩, 0⟩ (acc ++ [begC ⟨big, ⟨#[]⟩, 0⟩ s']) (begR ⟨big, ⟨#[]⟩, 0⟩ s')) := HR.out.trans (chunkN_step _ _ _ _ h0 hb h1024)
          have hrs := begR_size ⟨big, ⟨#[]⟩, 0⟩ s' hb
          have hcs := begC_sizes ⟨big, ⟨#[]⟩, 0⟩ s'
          have kw := own_spec (begC ⟨big, ⟨#[]⟩, 0⟩ s') (by omega) (by omega)
          clear HR hb hcs
          generalize begC ⟨big, ⟨#[]⟩, 0⟩ s' = C at *
          generalize begR ⟨big, ⟨#[]⟩, 0⟩ s' = X at *
          obtain ⟨fuel', rfl⟩ : ∃ f', fuel = f' + 1 := ⟨fuel - 1, by omega⟩
          go_wp2_with fail
          refine ko.mono ?_
          rintro e w2 ⟨rfl, hB⟩
          have HG2 : Hid (Gc w (.slice va acc.length vc) acc (w2.alloc (.cells (chkC C) 52))) := (HG.out.next hB).next ((Below.refl _ _).alloc (Nat.le_refl _) _)
          clear ko hB HG
          go_wp2_with fail
          refine (kw _).mono ?_
          rintro e w4 ⟨rfl, hB4⟩
          have HG4 : Hid (Gc w (.slice va acc.length vc) acc (w4.alloc (.cells (chkC C) 52))) := (HG2.out.next hB4).next ((Below.refl _ _).alloc (Nat.le_refl _) _)
          have HNW : Hid (∀ j u, [Value.string C.id, .string C.body, .int .i64 C.pad][j]? = some u → (w4.alloc (.cells (chkC C) 52)).cell? ((⟨w4.heap.size, 0, none⟩ : Addr).add j) = some u) := fun j u hj => three_cells (w := w4) (e := 52) j u hj
          clear kw hB4 HG2
          go_wp2_with (at_builtin; refine wpList_append_row _ rfl (.tmp 26) (.tmp 29) 22 rfl w.heap.size 52 iK (.agg zeroK) 3 40 Tryz.underlying22 HIK.out.1 HIK.out.2.1 HIK.out.2.2.1 HIK.out.2.2.2 rfl (by decide) (.slice va acc.length vc) acc.length _ rfl HG4.out.own ⟨w4.heap.size, 0, none⟩ 1 1 [.string C.id, .string C.body, .int .i64 C.pad] rfl rfl HNW.out (by simp [Value.oneCell']) (by simp only [maxLen]; omega) (by omega) HG4.out.below.size ?_; intro v6 w6 ho6 hg6)
          have HG6 : Hid (Gc w v6 (acc ++ [C]) w6) := HG4.out.push ho6.out hg6.out
          go_step3
          refine ⟨rfl, ⟨X, v6, acc ++ [C], fuel', _, _, _, _, _, _, _, _, _, _, _, _, _, _, _, _, _, _, _, _, _, _, _, _, _, rfl, by omega, by omega, by rw [List.length_append]; simp; omega, HE.out, HG6.out⟩, ?_⟩
          show X.size < s'.size
          omega
  · intro hp
    go_wp2_with fail
    go_step3
    rename_i hgo
    refine hgo _ _ ?_
    refine hp _ _ ⟨s, noS, [], s.size, _, _, _, _, _, _, _, _, _, _, _, _, _, _, _, _, _, _, _, _, _, _, _, _, _, rfl, hs, Nat.le_refl _, by simp, HR0.out, HG0.out⟩

end Go.Proofs.YtfnkdahocehilaaGreat
