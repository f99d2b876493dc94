/- Own text: the walk of Plain (aiff). what Unpack's closure does, sample by sample. the walk of the program's Unpack, its early ends. -/
import Derived.Test.YtaepgjheknkojaaGreatQ7plainf
import Derived.Test.YtaepgjheknkojaaGreatG14x
import Derived.Test.YtaepgjheknkojaaGreatG17x
namespace Go.Proofs.YtaepgjheknkojaaGreat
open Go.RowKit
set_option linter.unusedSimpArgs false
set_option linter.unusedVariables false

theorem fits_parts7 (p : Pcm) (h : fitsN 2 p = 0) : checkN p = 0 ∧ 1 ≤ p.rate ∧ p.rate ≤ 655350 ∧ 1 ≤ p.ch ∧ p.ch ≤ 8 ∧ (p.wd = 8 ∨ p.wd = 16 ∨ p.wd = 24 ∨ p.wd = 32) ∧ lenP p ≤ 1048576 := by
  unfold fitsN at h
  rw [if_pos (show formatB 2 = true from rfl)] at h
  by_cases q : checkN p = 0
  · rw [if_pos q] at h
    obtain ⟨hh, hl, _⟩ := check_zero p q
    obtain ⟨r1, r2, c1, c2, w1, w2, _⟩ := head_parts p hh
    cases hf : fitB 2 p.wd
    · rw [hf] at h
      cases h
    · have h8 : p.wd % 8 = 0 := of_decide_eq_true hf
      exact ⟨q, r1, r2, c1, c2, by omega, hl⟩
  · rw [if_neg q] at h
    exact absurd h q
theorem bod_com (p : Pcm) : bodT7 (sndP7 p) = comT p := rfl
theorem plain_ret7 {wf : World} {b : Nat} {d : Array Value} (h : wf.heap[b]? = some (.cells d 27 (0, 0))) (hd : d.size = 2) (a' : Act) (h2 : a'.tmps.getD 2 undef = .pointer (some ⟨b, 0, none⟩)) :
    (results Tryz.f13 a'.tmps).run Tryz.prog wf = .ok (.agg d) wf := by
  rw [res_one7 rfl]
  have hld := run_loadVar_row (P := Tryz.prog) wf b 27 27 d (0, 0) _ h Tryz.underlying27 rfl (by rw [hd]; exact infoA)
  simp [h2, asAddr, Result.andThen, hld]
/-- What Plain answers. -/
def GivesW7 (w : World) (p : Pcm) (e : Ending) (w' : World) : Prop := ∃ wo wc, e = .returned (.agg (waveC (pl7F p) (pl7L p) wo wc)) ∧ ChksAt w' wo (pl7L p) ∧ Below w.heap.size w w'

set_option maxRecDepth 20000 in
set_option maxHeartbeats 6400000 in
theorem Plain7_spec (p : Pcm) (po : Option Addr) (pc : Nat) (w : World) (hr : RowsAt w po p.pl) :
    Calls Tryz.prog 13 #[pcmV p po pc] w (GivesW7 w p) := by
  have HJ0 : Hid (Ja7 w (pcmC p po pc) zeroW ((w.alloc (.cells (pcmC p po pc) 24)).alloc (.cells zeroW 27))) := Ja7.new2 w _ _
  have kf := fits5_spec 2 p po pc ((w.alloc (.cells (pcmC p po pc) 24)).alloc (.cells zeroW 27)) (hr.below HJ0.out.below)
  have HRW : Hid (RowsAt w po p.pl) := hr
  clear hr
  go_enter Tryz.func13, Tryz.ntmps13
  go_wp2_with fail
  refine kf.mono ?_
  rintro e w2 ⟨rfl, hB2⟩
  have HJ2 : Hid (Ja7 w (pcmC p po pc) zeroW w2) := HJ0.out.next hB2
  clear kf hB2 HJ0
  cases hE : fitsN 2 p != 0
  · have hE0 : fitsN 2 p = 0 := by simpa using hE
    have HG := fits_parts7 p hE0
    have ks := soundIn7_spec p po pc w2 (HRW.out.below HJ2.out.below)
    have kp := fun wx => body7_spec (sndP7 p) (by show _ ≤ p.ch ∧ p.ch ≤ _; omega) (by show _ ≤ ((lenP p : Nat) : Int) ∧ ((lenP p : Nat) : Int) ≤ _; omega) (by show _ ≤ p.wd ∧ p.wd ≤ _; omega) wx
    rw [bod_com] at kp
    have HPF : Hid (pl7F p = ⟨#[65, 73, 70, 70]⟩) := if_pos hE0
    have HPL : Hid (pl7L p = [⟨⟨#[67, 79, 77, 77]⟩, comT p, 0⟩, ⟨⟨#[83, 83, 78, 68]⟩, ⟨#[0, 0, 0, 0, 0, 0, 0, 0]⟩, 0⟩]) := if_pos hE0
    have p0 := HJ2.out.p 0 _ rfl
    have p1 := HJ2.out.p 1 _ rfl
    have p2 := HJ2.out.p 2 _ rfl
    have p3 := HJ2.out.p 3 _ rfl
    rw [hE0]
    generalize comT p = PT at *
    clear HG hE hE0
    go_wp2_with fail
    refine ks.mono ?_
    rintro e w3 ⟨rfl, hB3⟩
    have HJ3 : Hid (Ja7 w (pcmC p po pc) zeroW w3) := HJ2.out.next hB3
    clear ks hB3 HJ2 p0 p1 p2 p3
    go_wp2_with fail
    refine (kp w3).mono ?_
    rintro e w4 ⟨rfl, hB4⟩
    have HJ4 : Hid (Ja7 w (pcmC p po pc) zeroW w4) := HJ3.out.next hB4
    clear kp hB4 HJ3
    have HJ5 : Hid (Ja7 w (pcmC p po pc) zeroW (((w4.alloc (.cells #[.string ⟨#[67, 79, 77, 77]⟩, .string PT, .int .i64 0] 55)).alloc (.cells #[.string ⟨#[83, 83, 78, 68]⟩, .string ⟨#[0, 0, 0, 0, 0, 0, 0, 0]⟩, .int .i64 0] 55)).alloc (.cells #[.string ⟨#[67, 79, 77, 77]⟩, .string PT, .int .i64 0, .string ⟨#[83, 83, 78, 68]⟩, .string ⟨#[0, 0, 0, 0, 0, 0, 0, 0]⟩, .int .i64 0] 55)) ∧ (((w4.alloc (.cells #[.string ⟨#[67, 79, 77, 77]⟩, .string PT, .int .i64 0] 55)).alloc (.cells #[.string ⟨#[83, 83, 78, 68]⟩, .string ⟨#[0, 0, 0, 0, 0, 0, 0, 0]⟩, .int .i64 0] 55)).alloc (.cells #[.string ⟨#[67, 79, 77, 77]⟩, .string PT, .int .i64 0, .string ⟨#[83, 83, 78, 68]⟩, .string ⟨#[0, 0, 0, 0, 0, 0, 0, 0]⟩, .int .i64 0] 55)).heap[w4.heap.size + 2]? = some (.cells #[.string ⟨#[67, 79, 77, 77]⟩, .string PT, .int .i64 0, .string ⟨#[83, 83, 78, 68]⟩, .string ⟨#[0, 0, 0, 0, 0, 0, 0, 0]⟩, .int .i64 0] 55 (0, 0))) := by
      refine ⟨((HJ4.out.next (belA _ _)).next (belA _ _)).next (belA _ _), ?_⟩
      rw [← show ((w4.alloc (.cells #[.string ⟨#[67, 79, 77, 77]⟩, .string PT, .int .i64 0] 55)).alloc (.cells #[.string ⟨#[83, 83, 78, 68]⟩, .string ⟨#[0, 0, 0, 0, 0, 0, 0, 0]⟩, .int .i64 0] 55)).heap.size = w4.heap.size + 2 from by simp]
      exact heap_alloc_new _ _
    have x0 := HJ5.out.1.sk 0 _ rfl
    have x1 := HJ5.out.1.sk 1 _ rfl
    have xz0 := HJ5.out.1.wz 0
    have xz1 := HJ5.out.1.wz 1
    have lw := lt_of_block HJ4.out.rw'
    have HLW : Hid (w.heap.size + 1 < w4.heap.size) := lw
    clear HJ4
    go_wp2_with fail
    generalize hw5 : World.alloc (World.alloc (World.alloc w4 _) _) _ = w5
    have HJ6 : Hid (Ja7 w (pcmC p po pc) zeroW w5 ∧ w5.heap[w4.heap.size + 2]? = some (.cells #[.string ⟨#[67, 79, 77, 77]⟩, .string PT, .int .i64 0, .string ⟨#[83, 83, 78, 68]⟩, .string ⟨#[0, 0, 0, 0, 0, 0, 0, 0]⟩, .int .i64 0] 55 (0, 0))) := by
      rw [← hw5]
      exact HJ5.out
    have HJ7 := (HJ6.out.1.setW 0 (.string ⟨#[65, 73, 70, 70]⟩)).setW 1 (.slice (some ⟨w4.heap.size + 2, 0, none⟩) 2 2)
    have HC : ((w5.setCell ⟨w.heap.size + 1, 0, none⟩ (.string ⟨#[65, 73, 70, 70]⟩)).setCell ⟨w.heap.size + 1, 1, none⟩ (.slice (some ⟨w4.heap.size + 2, 0, none⟩) 2 2)).heap[w4.heap.size + 2]? = some (.cells #[.string ⟨#[67, 79, 77, 77]⟩, .string PT, .int .i64 0, .string ⟨#[83, 83, 78, 68]⟩, .string ⟨#[0, 0, 0, 0, 0, 0, 0, 0]⟩, .int .i64 0] 55 (0, 0)) := by
      have := HLW.out
      rw [Below.heap_setCell _ _ _ _ (by show w4.heap.size + 2 ≠ w.heap.size + 1; omega), Below.heap_setCell _ _ _ _ (by show w4.heap.size + 2 ≠ w.heap.size + 1; omega)]
      exact HJ6.out.2
    refine bodyPost_ret (v := .agg #[.string ⟨#[65, 73, 70, 70]⟩, .slice (some ⟨w4.heap.size + 2, 0, none⟩) 2 2]) (plain_ret7 HJ7.rw' rfl _ rfl) rfl ⟨some ⟨w4.heap.size + 2, 0, none⟩, 2, by rw [HPF.out, HPL.out]; rfl, ?_, HJ7.below⟩
    rw [HPL.out]
    refine ⟨fun _ => ⟨w4.heap.size + 2, 0, rfl, fun i c hi => ?_⟩⟩
    rw [Nat.zero_add]
    match i, hi with
    | 0, hi =>
      cases hi
      exact ⟨by rw [cell_of_row _ _ _ _ _ _ HC]; rfl, by rw [cell_of_row _ _ _ _ _ _ HC]; rfl, by rw [cell_of_row _ _ _ _ _ _ HC]; rfl⟩
    | 1, hi =>
      cases hi
      exact ⟨by rw [cell_of_row _ _ _ _ _ _ HC]; rfl, by rw [cell_of_row _ _ _ _ _ _ HC]; rfl, by rw [cell_of_row _ _ _ _ _ _ HC]; rfl⟩
    | n + 2, hi => simp at hi
  · have HPF : Hid (pl7F p = ⟨#[]⟩) := if_neg (by simpa using hE)
    have HPL : Hid (pl7L p = []) := if_neg (by simpa using hE)
    generalize fitsN 2 p = E at *
    have x0 := HJ2.out.sk 0 _ rfl
    have x1 := HJ2.out.sk 1 _ rfl
    have xz0 := HJ2.out.wz 0
    have xz1 := HJ2.out.wz 1
    have HS : Hid ((w2.setCell ⟨w.heap.size + 1, 0, none⟩ (.string ⟨#[]⟩)).setCell ⟨w.heap.size + 1, 1, none⟩ (.slice none 0 0) = w2) := by
      show _ = _
      rw [set_same7 HJ2.out.rw' rfl, set_same7 HJ2.out.rw' rfl]
    go_wp2_with fail
    rw [HS.out]
    exact bodyPost_ret (v := .agg zeroW) (plain_ret7 HJ2.out.rw' rfl _ rfl) rfl ⟨none, 0, by rw [HPF.out, HPL.out]; rfl, by rw [HPL.out]; exact ChksAt.nil _ _, HJ2.out.below⟩

end Go.Proofs.YtaepgjheknkojaaGreat

namespace Go.Proofs.YtaepgjheknkojaaGreat
open Go.RowKit
set_option linter.unusedSimpArgs false
set_option linter.unusedVariables false

theorem ext_low (s : ByteArray) (a k : Nat) (h : a + k ≤ s.size) : (s.extract a s.size).extract 0 k = s.extract a (a + k) := by
  rw [ByteArray.extract_extract, Nat.add_zero, Nat.min_eq_left h]
theorem ext_high (s : ByteArray) (a k : Nat) (h : a + k ≤ s.size) : (s.extract a s.size).extract k (s.extract a s.size).size = s.extract (a + k) s.size := by
  rw [ByteArray.size_extract, ByteArray.extract_extract]
  congr 1
  omega
theorem Uc.drewN {w0 w : World} {C : Nat} {wd : Int} {big uns : Bool} {r : ByteArray} (h : Uc w0 C wd big uns r w) (q : Nat) : Uc w0 C wd big uns r (w.drewN q) :=
  ⟨h.sb, h.wb, h.res, h.cb, h.lt, ⟨h.below.os, h.below.tape, h.below.output, h.below.size, h.below.block⟩⟩
theorem decM_range (wd : Int) (uns : Bool) (m : Nat) (h4 : 4 ≤ wd) (h32 : wd ≤ 32) (hm : m < 4294967296) : -9223372036854775808 ≤ decM wd uns m ∧ decM wd uns m ≤ 9223372036854775807 := by
  have h1 := pow33 (wd - 1).toNat (by omega)
  have hn := nby_range wd h4 h32
  have h2 := pow33 (8 * nby wd) (by omega)
  unfold decM
  split
  · omega
  · split <;> omega
theorem numM_range (s : ByteArray) (wd : Int) (big uns : Bool) (i : Nat) (h4 : 4 ≤ wd) (h32 : wd ≤ 32) : -9223372036854775808 ≤ numM s wd big uns i ∧ numM s wd big uns i ≤ 9223372036854775807 := by
  apply decM_range wd uns _ h4 h32
  have hn := nby_range wd h4 h32
  have hsz : (s.extract (i * nby wd) (i * nby wd + nby wd)).size ≤ 4 := by rw [ByteArray.size_extract]; omega
  have hp : ∀ k, k ≤ 4 → 256 ^ k ≤ 4294967296 := fun k hk => Nat.le_trans (Nat.pow_le_pow_right (by decide) hk) (by decide)
  unfold rawN
  split
  · exact Nat.lt_of_lt_of_le (val_lt _ (bytesOf_lt _)) (hp _ (by rw [bytesOf_length]; exact hsz))
  · exact Nat.lt_of_lt_of_le (val_lt _ (fun x hx => bytesOf_lt _ x (List.mem_reverse.1 hx))) (hp _ (by rw [List.length_reverse, bytesOf_length]; exact hsz))

/-- What Unpack's planes are behind t samples. -/
def soM (s : ByteArray) (wd : Int) (big uns : Bool) (c t : Nat) : Nat → Nat → Int := fun k i => if i * c + k < t then numM s wd big uns (i * c + k) else 0

set_option maxHeartbeats 1600000 in
theorem unpackTurn (w0 : World) (C B : Nat) (hCB : C < B) (s : ByteArray) (wd : Int) (big uns : Bool) (h4 : 4 ≤ wd) (h32 : wd ≤ 32) (c n : Nat) (hsz : n * c * nby wd = s.size) :
    Turn B 0 n c (fun k => some ⟨B + 1 + k, 0, none⟩) (fun _ => n) 103 #[.pointer (some ⟨C, 0, none⟩), .pointer (some ⟨w0.heap.size, 0, none⟩), .pointer (some ⟨w0.heap.size + 1, 0, none⟩)]
      (fun t wx => t ≤ n * c ∧ Mat B c n (soM s wd big uns c t) wx ∧ Uc w0 C wd big uns (s.extract (t * nby wd) s.size) wx ∧ ∀ j, j < t → sampB (numM s wd big uns j) wd = true)
      (fun wx => (∃ j, j < n * c ∧ sampB (numM s wd big uns j) wd = false) ∧ ∃ r, Uc w0 C wd big uns r wx) := by
  refine ⟨fun t wx hI k hk => by rw [Nat.zero_add]; exact hI.2.1.outer.cell hk, fun h0 k hk => ⟨_, _, rfl⟩, fun i k wx hi hk hI b' o' he => ?_⟩
  have e' : B + 1 + k = b' ∧ 0 = o' := by
    injection he with he
    injection he with e1 e2
    exact ⟨e1, e2⟩
  obtain ⟨rfl, rfl⟩ := e'
  obtain ⟨htn, hM, hU, hok⟩ := hI
  have hlt : i * c + k < n * c := by
    have : i * c + k < (i + 1) * c := by rw [Nat.succ_mul]; omega
    exact Nat.lt_of_lt_of_le this (Nat.mul_le_mul_right _ hi)
  have hfit : (i * c + k) * nby wd + nby wd ≤ s.size := by
    rw [← Nat.succ_mul, ← hsz]
    exact Nat.mul_le_mul_right _ hlt
  have hold : wx.cell? ⟨B + 1 + k, 0 + i, none⟩ = some (.int .i64 0) := by
    rw [Nat.zero_add, (hM.inner k hk).cell hi]
    unfold soM
    rw [if_neg (Nat.lt_irrefl _)]
  have hfz : wx.frozen? ⟨B + 1 + k, 0 + i, none⟩ = false := (hM.inner k hk).frozen _
  refine (unpackC_spec w0 wx C wd big uns _ (B + 1 + k) (0 + i) 0 h4 h32 (by rw [ByteArray.size_extract]; omega) hU (by omega) hold hfz).mono ?_
  rintro e w' ⟨rfl, w1, q, hB, rfl⟩
  rw [ext_low s _ _ hfit, ext_high s _ _ hfit, ← Nat.succ_mul, Nat.zero_add]
  have hx : decM wd uns (rawN (s.extract ((i * c + k) * nby wd) ((i * c + k) * nby wd + nby wd)) big) = numM s wd big uns (i * c + k) := rfl
  rw [← Nat.succ_mul] at hx
  rw [hx]
  have hU2 := (((hU.next hB).set ⟨B + 1 + k, i, none⟩ (.int .i64 (numM s wd big uns (i * c + k))) (by simp; omega)).text (s.extract ((i * c + k).succ * nby wd) s.size)).drewN q
  have hlC := hU.lt
  cases hsb : sampB (numM s wd big uns (i * c + k)) wd with
  | false => exact Or.inr ⟨rfl, ⟨_, hlt, hsb⟩, _, hU2⟩
  | true =>
    refine Or.inl ⟨rfl, hlt, ⟨?_, fun l hl => ?_⟩, hU2, fun j hj => ?_⟩
    · have h1 := hM.outer.of_block (hB.block _ hM.outer.lt)
      exact ((h1.setOther (show B ≠ B + 1 + k by omega) _).setOther (show B ≠ w0.heap.size by omega) _).of_block rfl
    · have h1 := (hM.inner l hl).of_block (hB.block _ (hM.inner l hl).lt)
      by_cases e : l = k
      · subst e
        refine (((h1.set i _).setOther (show B + 1 + l ≠ w0.heap.size by omega) _).of_block rfl : World.rowIs _ _ _ _ _).congr fun j hj => ?_
        unfold soM
        by_cases ej : j = i
        · rw [if_pos ej, ej, if_pos (Nat.lt_succ_self _)]
        · rw [if_neg ej]
          by_cases hjt : j * c + l < i * c + l
          · rw [if_pos hjt, if_pos (by omega)]
          · rw [if_neg hjt, if_neg (fun h => hjt (split_t c i l j l hk hl h (fun q => ej q.1)))]
      · refine (((h1.setOther (show B + 1 + l ≠ B + 1 + k by omega) _).setOther (show B + 1 + l ≠ w0.heap.size by omega) _).of_block rfl : World.rowIs _ _ _ _ _).congr fun j hj => ?_
        unfold soM
        by_cases hjt : j * c + l < i * c + k
        · rw [if_pos hjt, if_pos (by omega)]
        · rw [if_neg hjt, if_neg (fun h => hjt (split_t c i k j l hk hl h (fun q => e q.2)))]
    · by_cases ej : j = i * c + k
      · rw [ej]
        exact hsb
      · exact hok j (by omega)

end Go.Proofs.YtaepgjheknkojaaGreat

namespace Go.Proofs.YtaepgjheknkojaaGreat
open Go.RowKit
set_option linter.unusedSimpArgs false
set_option linter.unusedVariables false

set_option maxRecDepth 20000 in
set_option maxHeartbeats 6400000 in
theorem unpack_two (s : ByteArray) (rate ch wd : Int) (big uns : Bool) (w : World) (hs : s.size ≤ 1000000000000000000) (hh : mayB rate ch wd = true) (hm : s.size % (nby wd * ch.toNat) ≠ 0) :
    Calls Tryz.prog 78 #[.string s, .int .i64 rate, .int .i64 ch, .int .i64 wd, .agg #[.bool big, .bool uns]] w fun e w' => GivesU w (uP s rate ch wd big uns) (uE s rate ch wd big uns) e w' := by
  have HN : Hid (uE s rate ch wd big uns = 2) := by
    show _ = _
    unfold uE
    rw [hh, if_pos rfl, if_neg hm]
  have HP : Hid (uP s rate ch wd big uns = ⟨0, 0, 0, []⟩) := by
    show _ = _
    unfold uP
    rw [HN.out]
    rfl
  obtain ⟨r1, r2, c1, c2, w1, w2⟩ : 1 ≤ rate ∧ rate ≤ 655350 ∧ 1 ≤ ch ∧ ch ≤ 8 ∧ 4 ≤ wd ∧ wd ≤ 32 := of_decide_eq_true hh
  have n1 := (nby_range wd w1 w2).1
  have n2 := (nby_range wd w1 w2).2.1
  obtain ⟨c, rfl⟩ : ∃ c : Nat, ch = (c : Int) := ⟨ch.toNat, by omega⟩
  rw [Int.toNat_natCast] at *
  have HU : Hid (Ub w s wd big uns ((((w.alloc (.cells #[.string s] 9)).alloc (.cells #[.int .i64 wd] 3)).alloc (.cells #[.bool big, .bool uns] 59)).alloc (.cells zeroC 24))) := Ub.new w s wd big uns
  have d1 : ((((w.alloc (.cells #[.string s] 9)).alloc (.cells #[.int .i64 wd] 3)).alloc (.cells #[.bool big, .bool uns] 59)).alloc (.cells zeroC 24)).cell? ⟨w.heap.size + 1, 0, none⟩ = some (.int .i64 wd) := by rw [cell_of_row _ _ _ _ _ _ HU.out.wb]; rfl
  have d2 : ((((w.alloc (.cells #[.string s] 9)).alloc (.cells #[.int .i64 wd] 3)).alloc (.cells #[.bool big, .bool uns] 59)).alloc (.cells zeroC 24)).cell? ⟨w.heap.size + 1 + 1, 0, none⟩ = some (.bool big) := by rw [cell_of_row _ _ _ _ _ _ HU.out.lb]; rfl
  have d3 : ((((w.alloc (.cells #[.string s] 9)).alloc (.cells #[.int .i64 wd] 3)).alloc (.cells #[.bool big, .bool uns] 59)).alloc (.cells zeroC 24)).cell? ⟨w.heap.size + 1 + 1, 1, none⟩ = some (.bool uns) := by rw [cell_of_row _ _ _ _ _ _ HU.out.lb]; rfl
  have km := mayBe_spec rate (c : Int) wd
  rw [hh] at km
  have KO : Hid (∀ wx, Hid (Ub w s wd big uns wx) → Calls Tryz.prog 57 #[.int .i64 wd, .agg #[.bool big, .bool uns]] wx fun e w' => e = .returned (.agg (cellC wd big uns)) ∧ Hid (Ub w s wd big uns w')) := fun wx hx =>
    (cellOf_spec wd big uns w1 w2 wx).mono fun e w' h => ⟨h.1, hx.out.next h.2⟩
  have ko := KO.out _ HU
  have hmul : (c : Int) * (nby wd : Int) = ((nby wd * c : Nat) : Int) := by rw [Nat.mul_comm]; simp
  have hp1 : 1 ≤ nby wd * c := Nat.mul_le_mul n1 (by omega : 1 ≤ c)
  have hp2 : nby wd * c ≤ 4 * 8 := Nat.mul_le_mul n2 (by omega : c ≤ 8)
  generalize nby wd * c = M at *
  have hb : ((s.size : Int) % (M : Int) == 0) = false := by
    rw [beq_eq_false_iff_ne]
    omega
  have hb3 : ((s.size : Int) % (M : Int) != 0) = true := by
    rw [bne_iff_ne]
    omega
  have hb2 : s.size % M = 0 ↔ False := by simp [hm]
  clear hh
  go_enter Tryz.func78, Tryz.ntmps78
  go_wp2_with fail
  refine (km _).mono ?_
  rintro e w2 ⟨rfl, rfl⟩
  clear km
  go_wp2_with fail
  refine ko.mono ?_
  rintro e w5 ⟨rfl, h5⟩
  clear ko d1 d2 d3 KO HU
  have HU6 : Hid (Uc w w5.heap.size wd big uns s (w5.alloc (.cells (cellC wd big uns) 104))) := by
    have h6 := h5.out.next ((Below.refl _ _).alloc (Nat.le_refl _) (.cells (cellC wd big uns) 104))
    exact ⟨h6.sb, h6.wb, h6.res, heap_alloc_new _ _, lt_of_block h5.out.res, h6.below⟩
  have f0 := HU6.out.s0
  have f1 := HU6.out.c1
  have f2 := HU6.out.wc
  have r0 : (w5.alloc (.cells (cellC wd big uns) 104)).heap[w.heap.size + 1 + 1 + 1]? = some (.cells zeroC 24 (0, 0)) := HU6.out.res
  have q0 : (w5.alloc (.cells (cellC wd big uns) 104)).cell? ⟨w.heap.size + 1 + 1 + 1, 0, none⟩ = some (.int .i64 0) := by rw [cell_of_row _ _ _ _ _ _ r0]; rfl
  have q1 : (w5.alloc (.cells (cellC wd big uns) 104)).cell? ⟨w.heap.size + 1 + 1 + 1, 1, none⟩ = some (.int .i64 0) := by rw [cell_of_row _ _ _ _ _ _ r0]; rfl
  have q2 : (w5.alloc (.cells (cellC wd big uns) 104)).cell? ⟨w.heap.size + 1 + 1 + 1, 2, none⟩ = some (.int .i64 0) := by rw [cell_of_row _ _ _ _ _ _ r0]; rfl
  have q3 : (w5.alloc (.cells (cellC wd big uns) 104)).cell? ⟨w.heap.size + 1 + 1 + 1, 3, none⟩ = some (.slice none 0 0) := by rw [cell_of_row _ _ _ _ _ _ r0]; rfl
  have z0 : (w5.alloc (.cells (cellC wd big uns) 104)).frozen? ⟨w.heap.size + 1 + 1 + 1, 0, none⟩ = false := by simp [World.frozen?, r0]
  have z1 : (w5.alloc (.cells (cellC wd big uns) 104)).frozen? ⟨w.heap.size + 1 + 1 + 1, 1, none⟩ = false := by simp [World.frozen?, r0]
  have z2 : (w5.alloc (.cells (cellC wd big uns) 104)).frozen? ⟨w.heap.size + 1 + 1 + 1, 2, none⟩ = false := by simp [World.frozen?, r0]
  have z3 : (w5.alloc (.cells (cellC wd big uns) 104)).frozen? ⟨w.heap.size + 1 + 1 + 1, 3, none⟩ = false := by simp [World.frozen?, r0]
  have HR0 : Hid ((w5.alloc (.cells (cellC wd big uns) 104)).heap[w.heap.size + 1 + 1 + 1]? = some (.cells zeroC 24 (0, 0))) := r0
  clear r0
  go_wp2_with fail
  generalize hwf : ((((w5.alloc (.cells (cellC wd big uns) 104)).setCell ⟨w.heap.size + 1 + 1 + 1, 0, none⟩ (.int .i64 0)).setCell ⟨w.heap.size + 1 + 1 + 1, 1, none⟩ (.int .i64 0)).setCell ⟨w.heap.size + 1 + 1 + 1, 2, none⟩ (.int .i64 0)).setCell ⟨w.heap.size + 1 + 1 + 1, 3, none⟩ (.slice none 0 0) = wf
  have hrow : wf.heap[w.heap.size + 1 + 1 + 1]? = some (.cells zeroC 24 (0, 0)) := by
    rw [← hwf, blk_set _ _ _ _ _ _ (blk_set _ _ _ _ _ _ (blk_set _ _ _ _ _ _ (blk_set _ _ _ _ _ _ HR0.out)))]
    rfl
  have hbel : Below w.heap.size w wf := by
    rw [← hwf]
    exact (((HU6.out.below.setCell (by simp; omega) _).setCell (by simp; omega) _).setCell (by simp; omega) _).setCell (by simp; omega) _
  refine bodyPost_ret (v := .tuple #[.agg zeroC, .int .i64 2]) ?_ rfl ⟨none, 0, by rw [HP.out, HN.out]; rfl, by rw [HP.out]; exact rows0 _ _, by rw [HP.out]; exact fresh0 _ _ _, hbel⟩
  rw [res_two rfl]
  have hld := run_loadVar_row (P := Tryz.prog) wf (w.heap.size + 1 + 1 + 1) 24 24 zeroC (0, 0) _ hrow Tryz.underlying24 rfl infPcm
  simp [asAddr, Result.andThen, hld]

set_option maxRecDepth 20000 in
set_option maxHeartbeats 6400000 in
theorem unpack_five (s : ByteArray) (rate ch wd : Int) (big uns : Bool) (w : World) (hs : s.size ≤ 1000000000000000000) (hh : mayB rate ch wd = true) (hm : s.size % (nby wd * ch.toNat) = 0) (h5q : 1048576 < s.size / (nby wd * ch.toNat)) :
    Calls Tryz.prog 78 #[.string s, .int .i64 rate, .int .i64 ch, .int .i64 wd, .agg #[.bool big, .bool uns]] w fun e w' => GivesU w (uP s rate ch wd big uns) (uE s rate ch wd big uns) e w' := by
  have HN : Hid (uE s rate ch wd big uns = 5) := by
    show _ = _
    unfold uE
    rw [hh, if_pos rfl, if_pos hm, if_pos h5q]
  have HP : Hid (uP s rate ch wd big uns = ⟨0, 0, 0, []⟩) := by
    show _ = _
    unfold uP
    rw [HN.out]
    rfl
  obtain ⟨r1, r2, c1, c2, w1, w2⟩ : 1 ≤ rate ∧ rate ≤ 655350 ∧ 1 ≤ ch ∧ ch ≤ 8 ∧ 4 ≤ wd ∧ wd ≤ 32 := of_decide_eq_true hh
  have n1 := (nby_range wd w1 w2).1
  have n2 := (nby_range wd w1 w2).2.1
  obtain ⟨c, rfl⟩ : ∃ c : Nat, ch = (c : Int) := ⟨ch.toNat, by omega⟩
  rw [Int.toNat_natCast] at *
  have HU : Hid (Ub w s wd big uns ((((w.alloc (.cells #[.string s] 9)).alloc (.cells #[.int .i64 wd] 3)).alloc (.cells #[.bool big, .bool uns] 59)).alloc (.cells zeroC 24))) := Ub.new w s wd big uns
  have d1 : ((((w.alloc (.cells #[.string s] 9)).alloc (.cells #[.int .i64 wd] 3)).alloc (.cells #[.bool big, .bool uns] 59)).alloc (.cells zeroC 24)).cell? ⟨w.heap.size + 1, 0, none⟩ = some (.int .i64 wd) := by rw [cell_of_row _ _ _ _ _ _ HU.out.wb]; rfl
  have d2 : ((((w.alloc (.cells #[.string s] 9)).alloc (.cells #[.int .i64 wd] 3)).alloc (.cells #[.bool big, .bool uns] 59)).alloc (.cells zeroC 24)).cell? ⟨w.heap.size + 1 + 1, 0, none⟩ = some (.bool big) := by rw [cell_of_row _ _ _ _ _ _ HU.out.lb]; rfl
  have d3 : ((((w.alloc (.cells #[.string s] 9)).alloc (.cells #[.int .i64 wd] 3)).alloc (.cells #[.bool big, .bool uns] 59)).alloc (.cells zeroC 24)).cell? ⟨w.heap.size + 1 + 1, 1, none⟩ = some (.bool uns) := by rw [cell_of_row _ _ _ _ _ _ HU.out.lb]; rfl
  have km := mayBe_spec rate (c : Int) wd
  rw [hh] at km
  have KO : Hid (∀ wx, Hid (Ub w s wd big uns wx) → Calls Tryz.prog 57 #[.int .i64 wd, .agg #[.bool big, .bool uns]] wx fun e w' => e = .returned (.agg (cellC wd big uns)) ∧ Hid (Ub w s wd big uns w')) := fun wx hx =>
    (cellOf_spec wd big uns w1 w2 wx).mono fun e w' h => ⟨h.1, hx.out.next h.2⟩
  have ko := KO.out _ HU
  have hmul : (c : Int) * (nby wd : Int) = ((nby wd * c : Nat) : Int) := by rw [Nat.mul_comm]; simp
  have hp1 : 1 ≤ nby wd * c := Nat.mul_le_mul n1 (by omega : 1 ≤ c)
  have hp2 : nby wd * c ≤ 4 * 8 := Nat.mul_le_mul n2 (by omega : c ≤ 8)
  generalize nby wd * c = M at *
  have hb : ((s.size : Int) % (M : Int) == 0) = true := by
    rw [beq_iff_eq]
    omega
  have hb3 : ((s.size : Int) % (M : Int) != 0) = false := by
    rw [bne_eq_false_iff_eq]
    omega
  have hb2 : s.size % M = 0 ↔ True := by simp [hm]
  have hqd : (s.size : Int) / (M : Int) = ((s.size / M : Nat) : Int) := by simp
  have hqb : s.size / M ≤ s.size := Nat.div_le_self _ _
  generalize s.size / M = Q at *
  clear hh
  go_enter Tryz.func78, Tryz.ntmps78
  go_wp2_with fail
  refine (km _).mono ?_
  rintro e w2 ⟨rfl, rfl⟩
  clear km
  go_wp2_with fail
  refine ko.mono ?_
  rintro e w5 ⟨rfl, h5⟩
  clear ko d1 d2 d3 KO HU
  have HU6 : Hid (Uc w w5.heap.size wd big uns s (w5.alloc (.cells (cellC wd big uns) 104))) := by
    have h6 := h5.out.next ((Below.refl _ _).alloc (Nat.le_refl _) (.cells (cellC wd big uns) 104))
    exact ⟨h6.sb, h6.wb, h6.res, heap_alloc_new _ _, lt_of_block h5.out.res, h6.below⟩
  have f0 := HU6.out.s0
  have f1 := HU6.out.c1
  have f2 := HU6.out.wc
  have r0 : (w5.alloc (.cells (cellC wd big uns) 104)).heap[w.heap.size + 1 + 1 + 1]? = some (.cells zeroC 24 (0, 0)) := HU6.out.res
  have q0 : (w5.alloc (.cells (cellC wd big uns) 104)).cell? ⟨w.heap.size + 1 + 1 + 1, 0, none⟩ = some (.int .i64 0) := by rw [cell_of_row _ _ _ _ _ _ r0]; rfl
  have q1 : (w5.alloc (.cells (cellC wd big uns) 104)).cell? ⟨w.heap.size + 1 + 1 + 1, 1, none⟩ = some (.int .i64 0) := by rw [cell_of_row _ _ _ _ _ _ r0]; rfl
  have q2 : (w5.alloc (.cells (cellC wd big uns) 104)).cell? ⟨w.heap.size + 1 + 1 + 1, 2, none⟩ = some (.int .i64 0) := by rw [cell_of_row _ _ _ _ _ _ r0]; rfl
  have q3 : (w5.alloc (.cells (cellC wd big uns) 104)).cell? ⟨w.heap.size + 1 + 1 + 1, 3, none⟩ = some (.slice none 0 0) := by rw [cell_of_row _ _ _ _ _ _ r0]; rfl
  have z0 : (w5.alloc (.cells (cellC wd big uns) 104)).frozen? ⟨w.heap.size + 1 + 1 + 1, 0, none⟩ = false := by simp [World.frozen?, r0]
  have z1 : (w5.alloc (.cells (cellC wd big uns) 104)).frozen? ⟨w.heap.size + 1 + 1 + 1, 1, none⟩ = false := by simp [World.frozen?, r0]
  have z2 : (w5.alloc (.cells (cellC wd big uns) 104)).frozen? ⟨w.heap.size + 1 + 1 + 1, 2, none⟩ = false := by simp [World.frozen?, r0]
  have z3 : (w5.alloc (.cells (cellC wd big uns) 104)).frozen? ⟨w.heap.size + 1 + 1 + 1, 3, none⟩ = false := by simp [World.frozen?, r0]
  have HR0 : Hid ((w5.alloc (.cells (cellC wd big uns) 104)).heap[w.heap.size + 1 + 1 + 1]? = some (.cells zeroC 24 (0, 0))) := r0
  clear r0
  go_wp2_with fail
  generalize hwf : ((((w5.alloc (.cells (cellC wd big uns) 104)).setCell ⟨w.heap.size + 1 + 1 + 1, 0, none⟩ (.int .i64 0)).setCell ⟨w.heap.size + 1 + 1 + 1, 1, none⟩ (.int .i64 0)).setCell ⟨w.heap.size + 1 + 1 + 1, 2, none⟩ (.int .i64 0)).setCell ⟨w.heap.size + 1 + 1 + 1, 3, none⟩ (.slice none 0 0) = wf
  have hrow : wf.heap[w.heap.size + 1 + 1 + 1]? = some (.cells zeroC 24 (0, 0)) := by
    rw [← hwf, blk_set _ _ _ _ _ _ (blk_set _ _ _ _ _ _ (blk_set _ _ _ _ _ _ (blk_set _ _ _ _ _ _ HR0.out)))]
    rfl
  have hbel : Below w.heap.size w wf := by
    rw [← hwf]
    exact (((HU6.out.below.setCell (by simp; omega) _).setCell (by simp; omega) _).setCell (by simp; omega) _).setCell (by simp; omega) _
  refine bodyPost_ret (v := .tuple #[.agg zeroC, .int .i64 5]) ?_ rfl ⟨none, 0, by rw [HP.out, HN.out]; rfl, by rw [HP.out]; exact rows0 _ _, by rw [HP.out]; exact fresh0 _ _ _, hbel⟩
  rw [res_two rfl]
  have hld := run_loadVar_row (P := Tryz.prog) wf (w.heap.size + 1 + 1 + 1) 24 24 zeroC (0, 0) _ hrow Tryz.underlying24 rfl infPcm
  simp [asAddr, Result.andThen, hld]

end Go.Proofs.YtaepgjheknkojaaGreat
