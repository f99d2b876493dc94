/- Own text: the walks of aiff's small calls. -/
import Derived.Test.YtaepgjheknkojaaGreatG17x
import Derived.Test.YtaepgjheknkojaaGreatQ6begin3
import Derived.BigQuiet
namespace Go.Proofs.YtaepgjheknkojaaGreat
open Go.RowKit
set_option linter.unusedSimpArgs false
set_option linter.unusedVariables false

abbrev sndC7 (x : Com) : Array Value := #[.int .i64 x.rate, .int .i64 x.ch, .int .i64 x.wd, .int .i64 x.smp, .bool x.lit]
abbrev sndV7 (x : Com) : Value := .agg (sndC7 x)
abbrev zeroS7 : Array Value := #[.int .i64 0, .int .i64 0, .int .i64 0, .int .i64 0, .bool false]
theorem infoS7 : (Tryz.prog.info? 68).map (·.size) = some 5 := by kernel_rfl
set_option maxRecDepth 20000 in
set_option maxHeartbeats 1600000 in
theorem be7_spec (n k : Int) (h1 : -9223372036854775808 ≤ n) (h2 : n ≤ 9223372036854775807) (w : World) :
    Calls Tryz.prog 74 #[.int .i64 n, .int .i64 k] w fun e w' => e = .returned (.string (beT n k)) ∧ Below w.heap.size w w' := by
  have kl := be_spec n k h1 h2 w
  generalize beT n k = T at *
  generalize wE n k = E at *
  go_enter Tryz.func74, Tryz.ntmps74
  go_wp2_with fail
  refine kl.mono ?_
  rintro e w2 ⟨rfl, hB⟩
  have HB : Hid (Below w.heap.size w w2) := hB
  clear hB kl
  go_wp2_with fail
  go_ret
  exact ⟨rfl, HB.out⟩
set_option maxRecDepth 20000 in
set_option maxHeartbeats 1600000 in
theorem isForm_spec (s : ByteArray) (w : World) :
    Calls Tryz.prog 55 #[.string s] w fun e w' => e = .returned (.bool (formB s)) ∧ w' = w := by
  have HF : Hid (formB s = (s.toList == [65, 73, 70, 70] || s.toList == [65, 73, 70, 67])) := by show _ = _; unfold formB; rw [aiff_list, aifc_list]
  cases h1 : s.toList == [65, 73, 70, 70]
  · cases h2 : s.toList == [65, 73, 70, 67]
    · rw [h1, h2] at HF
      go_enter Tryz.func55, Tryz.ntmps55
      go_wp2_with fail
      go_ret
      exact ⟨by rw [HF.out]; rfl, rfl⟩
    · rw [h1, h2] at HF
      go_enter Tryz.func55, Tryz.ntmps55
      go_wp2_with fail
      go_ret
      exact ⟨by rw [HF.out]; rfl, rfl⟩
  · rw [h1] at HF
    go_enter Tryz.func55, Tryz.ntmps55
    go_wp2_with fail
    go_ret
    exact ⟨by rw [HF.out]; rfl, rfl⟩
set_option maxRecDepth 20000 in
set_option maxHeartbeats 1600000 in
theorem headOf_spec (f : ByteArray) (n : Int) (hf : f.size ≤ 140737488355328) (h1 : 0 ≤ n) (h2 : n ≤ 1000000000000000000) (w : World) :
    Calls Tryz.prog 53 #[.string f, .int .i64 n] w fun e w' => e = .returned (.string (headT7 f n)) ∧ Below w.heap.size w w' := by
  have kb := be7_spec (n - 8) 4 (by omega) (by omega) w
  have hsz : ¬ (9223372036854775807 < 4 + (beT (n - 8) 4).size + f.size) := by
    have := beT_size (n - 8) 4
    omega
  have hsz2 : ¬ (9223372036854775807 < 4 + (beT (n - 8) 4).size) := by omega
  have HT : Hid (headT7 f n = ⟨#[70, 79, 82, 77]⟩ ++ beT (n - 8) 4 ++ f) := rfl
  generalize beT (n - 8) 4 = B at *
  go_enter Tryz.func53, Tryz.ntmps53
  go_wp2_with fail
  refine kb.mono ?_
  rintro e w2 ⟨rfl, hB⟩
  have HB : Hid (Below w.heap.size w w2) := hB
  clear hB kb
  go_wp2_with fail
  go_ret
  exact ⟨by rw [HT.out]; rfl, HB.out⟩
set_option maxRecDepth 20000 in
set_option maxHeartbeats 1600000 in
theorem hasWidth7_spec (wd : Int) (w : World) :
    Calls Tryz.prog 109 #[.int .i64 wd] w fun e w' => e = .returned (.bool (wdB wd)) ∧ w' = w := by
  have HF : Hid (wdB wd = (wd == 8 || (wd == 16 || (wd == 24 || wd == 32)))) := rfl
  cases h1 : wd == 8
  · cases h2 : wd == 16
    · cases h3 : wd == 24
      · rw [h1, h2, h3] at HF
        go_enter Tryz.func109, Tryz.ntmps109
        go_wp2_with fail
        go_ret
        exact ⟨by rw [HF.out]; rfl, rfl⟩
      · rw [h1, h2, h3] at HF
        go_enter Tryz.func109, Tryz.ntmps109
        go_wp2_with fail
        go_ret
        exact ⟨by rw [HF.out]; rfl, rfl⟩
    · rw [h1, h2] at HF
      go_enter Tryz.func109, Tryz.ntmps109
      go_wp2_with fail
      go_ret
      exact ⟨by rw [HF.out]; rfl, rfl⟩
  · rw [h1] at HF
    go_enter Tryz.func109, Tryz.ntmps109
    go_wp2_with fail
    go_ret
    exact ⟨by rw [HF.out]; rfl, rfl⟩

set_option maxRecDepth 20000 in
set_option maxHeartbeats 1600000 in
theorem against7_spec (x : Com) (w : World) :
    Calls Tryz.prog 89 #[sndV7 x] w fun e w' => e = .returned (.int .i64 (againE x)) ∧ Below w.heap.size w w' := by
  have HB : Hid (Below w.heap.size w (w.alloc (.cells (sndC7 x) 68))) := (Below.refl _ _).alloc (Nat.le_refl _) _
  have HE0 : Hid (againE x = if x.ch == 0 then 2 else if decide (8 < x.ch) || !wdB x.wd then 3 else if decide (1048576 < x.smp) then 5 else 0) := rfl
  have kw := hasWidth7_spec x.wd
  cases h1 : x.ch == 0
  · cases h2 : decide (8 < x.ch)
    · cases h3 : wdB x.wd
      · have HE : Hid (againE x = 3) := HE0.out.trans (by rw [h1, h2, h3]; rfl)
        rw [h3] at kw
        clear HE0
        go_enter Tryz.func89, Tryz.ntmps89
        go_wp2_with fail
        refine (kw _).mono ?_
        rintro e w2 ⟨rfl, rfl⟩
        clear kw
        go_wp2_with fail
        go_ret
        exact ⟨by rw [HE.out]; rfl, HB.out⟩
      · rw [h3] at kw
        cases h4 : decide (1048576 < x.smp)
        · have HE : Hid (againE x = 0) := HE0.out.trans (by rw [h1, h2, h3, h4]; rfl)
          clear HE0
          go_enter Tryz.func89, Tryz.ntmps89
          go_wp2_with fail
          refine (kw _).mono ?_
          rintro e w2 ⟨rfl, rfl⟩
          clear kw
          go_wp2_with fail
          go_ret
          exact ⟨by rw [HE.out]; rfl, HB.out⟩
        · have HE : Hid (againE x = 5) := HE0.out.trans (by rw [h1, h2, h3, h4]; rfl)
          clear HE0
          go_enter Tryz.func89, Tryz.ntmps89
          go_wp2_with fail
          refine (kw _).mono ?_
          rintro e w2 ⟨rfl, rfl⟩
          clear kw
          go_wp2_with fail
          go_ret
          exact ⟨by rw [HE.out]; rfl, HB.out⟩
    · have HE : Hid (againE x = 3) := HE0.out.trans (by rw [h1, h2]; rfl)
      clear HE0
      go_enter Tryz.func89, Tryz.ntmps89
      go_wp2_with fail
      go_ret
      exact ⟨by rw [HE.out]; rfl, HB.out⟩
  · have HE : Hid (againE x = 2) := HE0.out.trans (by rw [h1]; rfl)
    clear HE0
    go_enter Tryz.func89, Tryz.ntmps89
    go_wp2_with fail
    go_ret
    exact ⟨by rw [HE.out]; rfl, HB.out⟩

set_option maxRecDepth 20000 in
set_option maxHeartbeats 1600000 in
theorem compOf_spec (f s : ByteArray) (hs : kB f = true → 22 ≤ s.size) (w : World) :
    Calls Tryz.prog 86 #[.string f, .string s] w fun e w' => e = .returned (.string (kindT s (kB f))) ∧ w' = w := by
  cases h : f.toList == [65, 73, 70, 70]
  · have hk : kB f = true := by unfold kB; rw [aiff_list, h]; rfl
    have h22 := hs hk
    have sl : ∀ wx, (Instr.slice 9 (.string s) (some (.int .i64 18)) (some (.int .i64 22)) none).run Tryz.prog wx = .ok (.string (s.extract 18 22)) wx := fun wx => ext_run s 18 22 (by decide) (by omega) wx
    rw [hk]
    clear hs
    go_enter Tryz.func86, Tryz.ntmps86
    go_wp2_with fail
    go_ret
    exact ⟨rfl, rfl⟩
  · have hk : kB f = false := by unfold kB; rw [aiff_list, h]; rfl
    rw [hk]
    clear hs
    go_enter Tryz.func86, Tryz.ntmps86
    go_wp2_with fail
    go_ret
    exact ⟨rfl, rfl⟩
theorem one_byte (s : ByteArray) (h : 23 ≤ s.size) : fromBe (bytesOf (s.extract 22 23)) = ((bytesOf s).getD 22 0 : Int) ∧ (bytesOf s).getD 22 0 < 256 := by
  have hl : 22 < (bytesOf s).length := by rw [bytesOf_length]; omega
  have e : bytesOf (s.extract 22 23) = [(bytesOf s).getD 22 0] := by
    rw [bytesOf_extract, List.drop_take]
    rw [List.drop_eq_getElem_cons hl, List.getD_eq_getElem?_getD, List.getElem?_eq_getElem hl]
    rfl
  have hb : (bytesOf s).getD 22 0 < 256 := by
    rw [byte_getD s 22 (by omega)]
    exact (s[22]'(by omega)).toNat_lt
  refine ⟨?_, hb⟩
  rw [e]
  generalize (bytesOf s).getD 22 0 = b at *
  have hv : val [b] = b := by
    rw [val_cons]
    simp [val_nil]
  rw [fromBe_of _ (by simp) (by rw [hv]; omega), hv]
set_option maxRecDepth 20000 in
set_option maxHeartbeats 1600000 in
theorem isWhole_spec (f s : ByteArray) (hs : s.size ≤ 140737488351232) (w : World) :
    Calls Tryz.prog 85 #[.string f, .string s] w fun e w' => e = .returned (.bool (wholeB s (kB f))) ∧ w' = w := by
  cases h : f.toList == [65, 73, 70, 70]
  · have hk : kB f = true := by unfold kB; rw [aiff_list, h]; rfl
    rw [hk]
    by_cases h23 : s.size < 23
    · have HE : Hid (wholeB s true = false) := by show _ = _; unfold wholeB; rw [if_pos rfl, decide_eq_false (by omega)]; rfl
      have h2b : decide ((s.size : Int) < 23) = true := decide_eq_true (by omega)
      go_enter Tryz.func85, Tryz.ntmps85
      go_wp2_with fail
      go_ret
      exact ⟨by rw [HE.out]; rfl, rfl⟩
    · have h2b : decide ((s.size : Int) < 23) = false := decide_eq_false (by omega)
      have sl : ∀ wx, (Instr.slice 9 (.string s) (some (.int .i64 22)) (some (.int .i64 23)) none).run Tryz.prog wx = .ok (.string (s.extract 22 23)) wx := fun wx => ext_run s 22 23 (by decide) (by omega) wx
      have kf := fun wx => fromBe_spec (s.extract 22 23) (by rw [ByteArray.size_extract]; omega) wx
      obtain ⟨e1, e2⟩ := one_byte s (by omega)
      have HC : Hid (comN s = 23 + (bytesOf s).getD 22 0 + (23 + (bytesOf s).getD 22 0) % 2) := rfl
      rw [e1] at kf
      clear e1
      generalize (bytesOf s).getD 22 0 = b at *
      have hrem : Int.tmod (23 + (b : Int)) 2 = (((23 + b) % 2 : Nat) : Int) := by
        rw [Int.tmod_eq_emod_of_nonneg (by omega)]
        omega
      have HE : Hid (wholeB s true = ((s.size : Int) == 23 + (b : Int) + (((23 + b) % 2 : Nat) : Int))) := by
        show _ = _
        unfold wholeB
        rw [if_pos rfl, decide_eq_true (by omega), HC.out, Bool.true_and, Bool.eq_iff_iff, decide_eq_true_iff, beq_iff_eq]
        omega
      clear HC
      go_enter Tryz.func85, Tryz.ntmps85
      go_wp2_with fail
      refine (kf _).mono ?_
      rintro e w2 ⟨rfl, rfl⟩
      clear kf
      go_wp2_with fail
      go_ret
      exact ⟨by rw [HE.out]; first | rfl | simp, rfl⟩
  · have hk : kB f = false := by unfold kB; rw [aiff_list, h]; rfl
    rw [hk]
    have HE : Hid (wholeB s false = ((s.size : Int) == 18)) := by
      show _ = _
      unfold wholeB
      rw [if_neg (by decide), Bool.eq_iff_iff, decide_eq_true_iff, beq_iff_eq]
      omega
    go_enter Tryz.func85, Tryz.ntmps85
    go_wp2_with fail
    go_ret
    exact ⟨by rw [HE.out]; rfl, rfl⟩
theorem beI_range (s : ByteArray) (a b : Nat) (h : b ≤ a + 4) : 0 ≤ beI s a b ∧ beI s a b < 4294967296 := by
  unfold beI
  exact fromBe_four _ (by rw [bytesOf_length, ByteArray.size_extract]; omega) (bytesOf_lt _)
set_option maxRecDepth 20000 in
set_option maxHeartbeats 1600000 in
theorem startOf_spec (s : ByteArray) (w : World) :
    Calls Tryz.prog 65 #[.string s] w fun e w' => e = .returned (.tuple #[.int .i64 (stI s), .bool (stB s)]) ∧ w' = w := by
  by_cases h8 : 8 ≤ s.size
  · have h8b : decide ((s.size : Int) < 8) = false := decide_eq_false (by omega)
    have sl : ∀ wx, (Instr.slice 9 (.string s) none (some (.int .i64 4)) none).run Tryz.prog wx = .ok (.string (s.extract 0 4)) wx := fun wx => slice_upto s 4 (by omega) wx
    have kf : ∀ wx, Calls Tryz.prog 88 #[.string (s.extract 0 4)] wx fun e w' => e = .returned (.int .i64 (beI s 0 4)) ∧ w' = wx := fun wx => fromBe_spec (s.extract 0 4) (by rw [ByteArray.size_extract]; omega) wx
    have hr := beI_range s 0 4 (by omega)
    have H1 : Hid (stI s = 8 + beI s 0 4) := if_pos h8
    have H2 : Hid (stB s = decide (8 + beI s 0 4 ≤ (s.size : Int))) := by show _ = _; unfold stB; rw [decide_eq_true h8]; rfl
    generalize beI s 0 4 = b at *
    go_enter Tryz.func65, Tryz.ntmps65
    go_wp2_with fail
    refine (kf _).mono ?_
    rintro e w2 ⟨rfl, rfl⟩
    clear kf
    go_wp2_with fail
    go_ret2
    exact ⟨by rw [H1.out, H2.out]; rfl, rfl⟩
  · have h8b : decide ((s.size : Int) < 8) = true := decide_eq_true (by omega)
    have H1 : Hid (stI s = 0) := if_neg h8
    have H2 : Hid (stB s = false) := by show _ = _; unfold stB; rw [decide_eq_false h8]; rfl
    go_enter Tryz.func65, Tryz.ntmps65
    go_wp2_with fail
    go_ret2
    exact ⟨by rw [H1.out, H2.out]; rfl, rfl⟩
/-- A sound that a file can have. -/
structure GoodX (x : Com) : Prop where
  c0 : 0 ≤ x.ch
  c1 : x.ch ≤ 8
  w0 : 0 ≤ x.wd
  w1 : x.wd ≤ 32
  s0 : 0 ≤ x.smp
  s1 : x.smp ≤ 1048576
theorem GoodX.m1 {x : Com} (h : GoodX x) : 0 ≤ x.smp * x.ch ∧ x.smp * x.ch ≤ 8388608 :=
  ⟨Int.mul_nonneg h.s0 h.c0, Int.le_trans (Int.mul_le_mul h.s1 h.c1 h.c0 (by decide)) (by decide)⟩
theorem GoodX.m2 {x : Com} (h : GoodX x) : 0 ≤ x.smp * x.ch * x.wd ∧ x.smp * x.ch * x.wd ≤ 268435456 :=
  ⟨Int.mul_nonneg h.m1.1 h.w0, Int.le_trans (Int.mul_le_mul h.m1.2 h.w1 h.w0 (by decide)) (by decide)⟩
set_option maxRecDepth 20000 in
set_option maxHeartbeats 1600000 in
theorem size7_spec (x : Com) (h : GoodX x) (w : World) :
    Calls Tryz.prog 77 #[sndV7 x] w fun e w' => e = .returned (.int .i64 (wantN x)) ∧ Below w.heap.size w w' := by
  have HB : Hid (Below w.heap.size w (w.alloc (.cells (sndC7 x) 68))) := (Below.refl _ _).alloc (Nat.le_refl _) _
  have m1 := h.m1
  have m2 := h.m2
  have HW : Hid (wantN x = x.smp * x.ch * x.wd / 8) := rfl
  have hw1 : wrap64 (x.smp * x.ch) = x.smp * x.ch := by unfold wrap64; omega
  have hw2 : wrap64 (x.smp * x.ch * x.wd) = x.smp * x.ch * x.wd := by unfold wrap64; omega
  have htd : (x.smp * x.ch * x.wd).tdiv 8 = x.smp * x.ch * x.wd / 8 := Int.tdiv_eq_ediv_of_nonneg m2.1
  clear h
  go_enter Tryz.func77, Tryz.ntmps77
  go_wp2_with fail
  go_ret
  exact ⟨by rw [HW.out]; rfl, HB.out⟩
theorem infoL7 : (Tryz.prog.info? 59).map (·.size) = some 2 := by kernel_rfl
set_option maxRecDepth 20000 in
set_option maxHeartbeats 1600000 in
theorem layout7_spec (x : Com) (w : World) :
    Calls Tryz.prog 31 #[sndV7 x] w fun e w' => e = .returned (.agg #[.bool (!x.lit), .bool false]) ∧ Below w.heap.size w w' := by
  go_enter Tryz.func31, Tryz.ntmps31
  go_wp2_with fail
  generalize hwf : World.alloc (World.alloc w _) _ = wf
  have hrow : wf.heap[w.heap.size + 1]? = some (.cells #[.bool (!x.lit), .bool false] 59 (0, 0)) := by
    rw [← hwf, ← show (w.alloc (.cells (sndC7 x) 68)).heap.size = w.heap.size + 1 from by simp]
    exact heap_alloc_new _ _
  have hbel : Below w.heap.size w wf := by
    rw [← hwf]
    exact ((Below.refl _ _).alloc (Nat.le_refl _) _).alloc (by simp) _
  refine bodyPost_ret (v := .agg #[.bool (!x.lit), .bool false]) ?_ rfl ⟨rfl, hbel⟩
  rw [res_one7 rfl]
  have hld := run_loadVar_row (P := Tryz.prog) wf (w.heap.size + 1) 59 59 #[.bool (!x.lit), .bool false] (0, 0) _ hrow Tryz.underlying59 rfl infoL7
  simp [asAddr, Result.andThen, hld]

end Go.Proofs.YtaepgjheknkojaaGreat
