/- Own text: the walk of against: what speaks against a fmt. the walk of soundOf, its first ends. sounds that a file can have. -/
import Derived.Test.YtfnkdahocehilaaGreatG16x
import Derived.Test.YtfnkdahocehilaaGreatQ6begin3
import Derived.BigQuiet
import Derived.Deep.RegionHeld3
import Derived.Deep.CutRange
namespace Go.Proofs.YtfnkdahocehilaaGreat
open Go.RowKit
set_option linter.unusedSimpArgs false
set_option linter.unusedVariables false

theorem leT_size_eq (m k : Nat) (h1 : 1 ≤ k) (h8 : k ≤ 8) (h : m < 256 ^ k) : (leT (m : Int) (k : Int)).size = k := by
  rw [leT_nat m k (fits_of_nat m k h1 h8 h), textOf_size, lowL_length]
theorem leT_two (n : Int) (h0 : 0 ≤ n) (h1 : n < 65536) : (leT n 2).size = 2 := by
  have := leT_size_eq n.toNat 2 (by decide) (by decide) (by omega)
  rwa [show ((n.toNat : Nat) : Int) = n from by omega] at this
theorem leT_four (n : Int) (h0 : 0 ≤ n) (h1 : n < 4294967296) : (leT n 4).size = 4 := by
  have := leT_size_eq n.toNat 4 (by decide) (by decide) (by omega)
  rwa [show ((n.toNat : Nat) : Int) = n from by omega] at this
theorem tagN_range (n : Nat) : 0 ≤ tagN n ∧ tagN n < 65536 := by
  unfold tagN
  split
  · decide
  · split <;> decide
/-- A sound that a WAV file can have. -/
structure GoodS (a : Snd) : Prop where
  fair : FairS a
  r1 : a.rate ≤ 655350
theorem GoodS.rb {a : Snd} (h : GoodS a) : 0 ≤ a.rate * blkN a ∧ a.rate * blkN a < 4294967296 := by
  have hb := h.fair.blk
  have h1 : 0 ≤ a.rate * blkN a := Int.mul_nonneg h.fair.r0 hb.1
  have h2 : a.rate * blkN a ≤ 655350 * 32 := Int.mul_le_mul h.r1 hb.2 hb.1 (by decide)
  omega
theorem headT_size {a : Snd} (h : GoodS a) (n : Nat) : (headT a n).size = 16 := by
  have hb := h.fair.blk
  have hr := h.rb
  have ht := tagN_range n
  have := h.r1
  have := h.fair.r0
  have := h.fair.c0
  have := h.fair.c1
  have := h.fair.w0
  have := h.fair.w1
  unfold headT
  simp only [ByteArray.size_append]
  rw [leT_two _ ht.1 ht.2, leT_two a.ch (by omega) (by omega), leT_four a.rate (by omega) (by omega), leT_four _ hr.1 hr.2, leT_two (blkN a) (by omega) (by omega), leT_two a.wd (by omega) (by omega)]
theorem guid_size : guidT.size = 16 := rfl
theorem bodyT_size {a : Snd} (h : GoodS a) (n : Nat) (hn : fmtLen n) (sp : ByteArray) (hsp : n = 40 → sp.size = 4) : (bodyT a n sp).size = n := by
  have := h.fair.w0
  have := h.fair.w1
  rcases hn with rfl | rfl | rfl
  · exact headT_size h 16
  · show (headT a 18 ++ leT 0 2).size = 18
    rw [ByteArray.size_append, headT_size h 18, leT_two 0 (by decide) (by decide)]
  · show (headT a 40 ++ (leT 22 2 ++ leT a.wd 2 ++ sp ++ guidT)).size = 40
    simp only [ByteArray.size_append]
    rw [headT_size h 40, leT_two 22 (by decide) (by decide), leT_two a.wd (by omega) (by omega), hsp rfl, guid_size]
def speakT (s : ByteArray) : ByteArray := if s.size = 40 then s.extract 20 24 else ⟨#[]⟩
def wantT (a : Snd) (s : ByteArray) : ByteArray := bodyT a s.size (speakT s)
def agaE (a : Snd) (s : ByteArray) : Int :=
  if (s.extract 0 (min s.size 18)).toList == ((wantT a s).extract 0 (min s.size 18)).toList then (if s.toList == (wantT a s).toList then 0 else 3) else 2

set_option maxRecDepth 20000 in
set_option maxHeartbeats 3200000 in
theorem against_16 (a : Snd) (h : GoodS a) (s : ByteArray) (hn : s.size = 16) (w : World) :
    Calls Tryz.prog 119 #[sndV a, .string s] w fun e w' => e = .returned (.int .i64 (agaE a s)) ∧ Below w.heap.size w w' := by
  have kb := body_16 a h.fair ⟨#[]⟩ (by decide) (w.alloc (.cells (sndC a) 73))
  have HB : Hid (Below w.heap.size w (w.alloc (.cells (sndC a) 73))) := (Below.refl _ _).alloc (Nat.le_refl _) _
  have hWs : (bodyT a 16 ⟨#[]⟩).size = 16 := bodyT_size h 16 (by unfold fmtLen; decide) _ (fun q => absurd q (by decide))
  have HW : Hid (wantT a s = bodyT a 16 ⟨#[]⟩) := by
    show _ = _
    unfold wantT speakT
    rw [hn]
    rfl
  have HE : Hid (agaE a s = if (s.extract 0 16).toList == ((bodyT a 16 ⟨#[]⟩).extract 0 16).toList then (if s.toList == (bodyT a 16 ⟨#[]⟩).toList then 0 else 3) else 2) := by
    show _ = _
    unfold agaE
    rw [HW.out, hn]
    rfl
  generalize bodyT a 16 ⟨#[]⟩ = W at *
  have hni : (s.size : Int) = 16 := by omega
  have hWi : (W.size : Int) = 16 := by omega
  have hmin : min (16 : Int) 18 = 16 := by decide
  have hsl1 : ∀ w, (Instr.slice 9 (.string s) none (some (.int .i64 16)) none).run Tryz.prog w = .ok (.string (s.extract 0 16)) w := fun w => slice_upto s 16 (by omega) w
  have hsl2 : ∀ w, (Instr.slice 9 (.string W) none (some (.int .i64 16)) none).run Tryz.prog w = .ok (.string (W.extract 0 16)) w := fun w => slice_upto W 16 (by omega) w
  clear HW h
  cases h1 : (s.extract 0 16).toList == (W.extract 0 16).toList
  · rw [h1] at HE
    go_enter Tryz.func119, Tryz.ntmps119
    go_wp2_with fail
    refine kb.mono ?_
    rintro e w2 ⟨rfl, hB⟩
    have HB2 : Hid (Below w.heap.size w w2) := HB.out.trans (hB.mono HB.out.size)
    clear kb hB
    go_wp2_with fail
    go_quiet (fail)
    go_wp2_with fail
    go_ret
    refine ⟨?_, HB2.out.trans ((below_drewN _ _).mono HB2.out.size)⟩
    rw [HE.out]
    rfl
  · rw [h1] at HE
    cases h2 : s.toList == W.toList
    · rw [h2] at HE
      go_enter Tryz.func119, Tryz.ntmps119
      go_wp2_with fail
      refine kb.mono ?_
      rintro e w2 ⟨rfl, hB⟩
      have HB2 : Hid (Below w.heap.size w w2) := HB.out.trans (hB.mono HB.out.size)
      clear kb hB
      go_wp2_with fail
      go_quiet (fail)
      go_wp2_with fail
      go_ret
      refine ⟨?_, HB2.out.trans ((below_drewN _ _).mono HB2.out.size)⟩
      rw [HE.out]
      rfl
    · rw [h2] at HE
      go_enter Tryz.func119, Tryz.ntmps119
      go_wp2_with fail
      refine kb.mono ?_
      rintro e w2 ⟨rfl, hB⟩
      have HB2 : Hid (Below w.heap.size w w2) := HB.out.trans (hB.mono HB.out.size)
      clear kb hB
      go_wp2_with fail
      go_quiet (fail)
      go_wp2_with fail
      go_ret
      refine ⟨?_, HB2.out.trans ((below_drewN _ _).mono HB2.out.size)⟩
      rw [HE.out]
      rfl

set_option maxRecDepth 20000 in
set_option maxHeartbeats 3200000 in
theorem against_18 (a : Snd) (h : GoodS a) (s : ByteArray) (hn : s.size = 18) (w : World) :
    Calls Tryz.prog 119 #[sndV a, .string s] w fun e w' => e = .returned (.int .i64 (agaE a s)) ∧ Below w.heap.size w w' := by
  have kb := body_18 a h.fair ⟨#[]⟩ (by decide) (w.alloc (.cells (sndC a) 73))
  have HB : Hid (Below w.heap.size w (w.alloc (.cells (sndC a) 73))) := (Below.refl _ _).alloc (Nat.le_refl _) _
  have hWs : (bodyT a 18 ⟨#[]⟩).size = 18 := bodyT_size h 18 (by unfold fmtLen; decide) _ (fun q => absurd q (by decide))
  have HW : Hid (wantT a s = bodyT a 18 ⟨#[]⟩) := by
    show _ = _
    unfold wantT speakT
    rw [hn]
    rfl
  have HE : Hid (agaE a s = if (s.extract 0 18).toList == ((bodyT a 18 ⟨#[]⟩).extract 0 18).toList then (if s.toList == (bodyT a 18 ⟨#[]⟩).toList then 0 else 3) else 2) := by
    show _ = _
    unfold agaE
    rw [HW.out, hn]
    rfl
  generalize bodyT a 18 ⟨#[]⟩ = W at *
  have hni : (s.size : Int) = 18 := by omega
  have hWi : (W.size : Int) = 18 := by omega
  have hmin : min (18 : Int) 18 = 18 := by decide
  have hsl1 : ∀ w, (Instr.slice 9 (.string s) none (some (.int .i64 18)) none).run Tryz.prog w = .ok (.string (s.extract 0 18)) w := fun w => slice_upto s 18 (by omega) w
  have hsl2 : ∀ w, (Instr.slice 9 (.string W) none (some (.int .i64 18)) none).run Tryz.prog w = .ok (.string (W.extract 0 18)) w := fun w => slice_upto W 18 (by omega) w
  clear HW h
  cases h1 : (s.extract 0 18).toList == (W.extract 0 18).toList
  · rw [h1] at HE
    go_enter Tryz.func119, Tryz.ntmps119
    go_wp2_with fail
    refine kb.mono ?_
    rintro e w2 ⟨rfl, hB⟩
    have HB2 : Hid (Below w.heap.size w w2) := HB.out.trans (hB.mono HB.out.size)
    clear kb hB
    go_wp2_with fail
    go_quiet (fail)
    go_wp2_with fail
    go_ret
    refine ⟨?_, HB2.out.trans ((below_drewN _ _).mono HB2.out.size)⟩
    rw [HE.out]
    rfl
  · rw [h1] at HE
    cases h2 : s.toList == W.toList
    · rw [h2] at HE
      go_enter Tryz.func119, Tryz.ntmps119
      go_wp2_with fail
      refine kb.mono ?_
      rintro e w2 ⟨rfl, hB⟩
      have HB2 : Hid (Below w.heap.size w w2) := HB.out.trans (hB.mono HB.out.size)
      clear kb hB
      go_wp2_with fail
      go_quiet (fail)
      go_wp2_with fail
      go_ret
      refine ⟨?_, HB2.out.trans ((below_drewN _ _).mono HB2.out.size)⟩
      rw [HE.out]
      rfl
    · rw [h2] at HE
      go_enter Tryz.func119, Tryz.ntmps119
      go_wp2_with fail
      refine kb.mono ?_
      rintro e w2 ⟨rfl, hB⟩
      have HB2 : Hid (Below w.heap.size w w2) := HB.out.trans (hB.mono HB.out.size)
      clear kb hB
      go_wp2_with fail
      go_quiet (fail)
      go_wp2_with fail
      go_ret
      refine ⟨?_, HB2.out.trans ((below_drewN _ _).mono HB2.out.size)⟩
      rw [HE.out]
      rfl

set_option maxRecDepth 20000 in
set_option maxHeartbeats 3200000 in
theorem against_40 (a : Snd) (h : GoodS a) (s : ByteArray) (hn : s.size = 40) (w : World) :
    Calls Tryz.prog 119 #[sndV a, .string s] w fun e w' => e = .returned (.int .i64 (agaE a s)) ∧ Below w.heap.size w w' := by
  have kb := body_40 a h.fair (s.extract 20 24) (by rw [ext_size _ _ _ (by omega) (by omega)]; decide) (w.alloc (.cells (sndC a) 73))
  have HB : Hid (Below w.heap.size w (w.alloc (.cells (sndC a) 73))) := (Below.refl _ _).alloc (Nat.le_refl _) _
  have hWs : (bodyT a 40 (s.extract 20 24)).size = 40 := bodyT_size h 40 (by unfold fmtLen; decide) _ (fun q => by rw [ext_size _ _ _ (by omega) (by omega)])
  have HW : Hid (wantT a s = bodyT a 40 (s.extract 20 24)) := by
    show _ = _
    unfold wantT speakT
    rw [hn]
    rfl
  have HE : Hid (agaE a s = if (s.extract 0 18).toList == ((bodyT a 40 (s.extract 20 24)).extract 0 18).toList then (if s.toList == (bodyT a 40 (s.extract 20 24)).toList then 0 else 3) else 2) := by
    show _ = _
    unfold agaE
    rw [HW.out, hn]
    rfl
  generalize bodyT a 40 (s.extract 20 24) = W at *
  have hni : (s.size : Int) = 40 := by omega
  have hWi : (W.size : Int) = 40 := by omega
  have hmin : min (40 : Int) 18 = 18 := by decide
  have hsl1 : ∀ w, (Instr.slice 9 (.string s) none (some (.int .i64 18)) none).run Tryz.prog w = .ok (.string (s.extract 0 18)) w := fun w => slice_upto s 18 (by omega) w
  have hsl2 : ∀ w, (Instr.slice 9 (.string W) none (some (.int .i64 18)) none).run Tryz.prog w = .ok (.string (W.extract 0 18)) w := fun w => slice_upto W 18 (by omega) w
  clear HW h
  cases h1 : (s.extract 0 18).toList == (W.extract 0 18).toList
  · rw [h1] at HE
    go_enter Tryz.func119, Tryz.ntmps119
    go_wp2_with fail
    refine kb.mono ?_
    rintro e w2 ⟨rfl, hB⟩
    have HB2 : Hid (Below w.heap.size w w2) := HB.out.trans (hB.mono HB.out.size)
    clear kb hB
    go_wp2_with fail
    go_quiet (fail)
    go_wp2_with fail
    go_ret
    refine ⟨?_, HB2.out.trans ((below_drewN _ _).mono HB2.out.size)⟩
    rw [HE.out]
    rfl
  · rw [h1] at HE
    cases h2 : s.toList == W.toList
    · rw [h2] at HE
      go_enter Tryz.func119, Tryz.ntmps119
      go_wp2_with fail
      refine kb.mono ?_
      rintro e w2 ⟨rfl, hB⟩
      have HB2 : Hid (Below w.heap.size w w2) := HB.out.trans (hB.mono HB.out.size)
      clear kb hB
      go_wp2_with fail
      go_quiet (fail)
      go_wp2_with fail
      go_ret
      refine ⟨?_, HB2.out.trans ((below_drewN _ _).mono HB2.out.size)⟩
      rw [HE.out]
      rfl
    · rw [h2] at HE
      go_enter Tryz.func119, Tryz.ntmps119
      go_wp2_with fail
      refine kb.mono ?_
      rintro e w2 ⟨rfl, hB⟩
      have HB2 : Hid (Below w.heap.size w w2) := HB.out.trans (hB.mono HB.out.size)
      clear kb hB
      go_wp2_with fail
      go_quiet (fail)
      go_wp2_with fail
      go_ret
      refine ⟨?_, HB2.out.trans ((below_drewN _ _).mono HB2.out.size)⟩
      rw [HE.out]
      rfl

theorem against_spec (a : Snd) (h : GoodS a) (s : ByteArray) (hn : fmtLen s.size) (w : World) :
    Calls Tryz.prog 119 #[sndV a, .string s] w fun e w' => e = .returned (.int .i64 (agaE a s)) ∧ Below w.heap.size w w' := by
  rcases hn with hn | hn | hn
  · exact against_16 a h s hn w
  · exact against_18 a h s hn w
  · exact against_40 a h s hn w

end Go.Proofs.YtfnkdahocehilaaGreat

namespace Go.Proofs.YtfnkdahocehilaaGreat
open Go.RowKit
set_option linter.unusedSimpArgs false
set_option linter.unusedVariables false

def tagI (s : ByteArray) : Int := leI (s.extract 0 2)
def sndR (s : ByteArray) : Snd := ⟨leI (s.extract 4 8), leI (s.extract 2 4), leI (s.extract 14 16)⟩
def sndE (s : ByteArray) : Int :=
  if s.size < 16 then 2 else if tagI s != 1 && tagI s != 65534 then 3 else if tagI s != tagN s.size then 2
  else if (sndR s).ch == 0 || ((sndR s).rate == 0 || (sndR s).wd == 0) then 2 else if supB (sndR s) then agaE (sndR s) s else 3
def sndA (s : ByteArray) : Snd := if sndE s = 0 then sndR s else noSnd
theorem leI_range (s : ByteArray) (h : s.size ≤ 4) : 0 ≤ leI s ∧ leI s < 4294967296 := fromN_range s false h
abbrev zeroS : Array Value := #[.int .i64 0, .int .i64 0, .int .i64 0]
theorem infoS : (Tryz.prog.info? 73).map (·.size) = some 3 := by kernel_rfl
theorem res_two_cell {fn : Func} {p t : Tmp} {ty : TypeId} (h : fn.results = #[.cell p ty, .tmp t]) (tmps : Array Value) (P : Program) (w : World) :
    (results fn tmps).run P w = ((asAddr (tmps.getD p undef)).run P w).andThen fun a w₁ => ((loadVar ty a).run P w₁).andThen fun x w₂ => .ok (.tuple #[x, tmps.getD t undef]) w₂ := by
  simp only [results, h]
  simp [Sem.run_bind, Result.andThen]
theorem snd_ret {wf : World} {b : Nat} {d : Array Value} (h : wf.heap[b]? = some (.cells d 73 (0, 0))) (hd : d.size = 3) (a' : Act) (n : Value) (h2 : a'.tmps.getD 2 undef = .pointer (some ⟨b, 0, none⟩)) (h3 : a'.tmps.getD 3 undef = n) :
    (results Tryz.f116 a'.tmps).run Tryz.prog wf = .ok (.tuple #[.agg d, n]) wf := by
  rw [res_two_cell rfl]
  have hld := run_loadVar_row (P := Tryz.prog) wf b 73 73 d (0, 0) _ h Tryz.underlying73 rfl (by rw [hd]; exact infoS)
  simp [h2, h3, asAddr, Result.andThen, hld]

set_option maxRecDepth 20000 in
set_option maxHeartbeats 3200000 in
theorem soundOf_short (s : ByteArray) (hs : s.size ≤ 140737488351232) (h : s.size < 16) (w : World) :
    Calls Tryz.prog 116 #[.string s] w fun e w' => e = .returned (.tuple #[.agg zeroS, .int .i64 2]) ∧ Below w.heap.size w w' := by
  have HN : Hid ((w.alloc (.cells zeroS 73)).heap[w.heap.size]? = some (.cells zeroS 73 (0, 0))) := heap_alloc_new w _
  have HB : Hid (Below w.heap.size w (w.alloc (.cells zeroS 73))) := (Below.refl _ _).alloc (Nat.le_refl _) _
  go_enter Tryz.func116, Tryz.ntmps116
  go_wp2_with fail
  exact bodyPost_ret (v := .tuple #[.agg zeroS, .int .i64 2]) (snd_ret HN.out rfl _ _ rfl rfl) rfl ⟨rfl, HB.out⟩

set_option maxRecDepth 20000 in
set_option maxHeartbeats 3200000 in
theorem soundOf_tag (s : ByteArray) (hs : s.size ≤ 140737488351232) (h : 16 ≤ s.size) (ht1 : (tagI s != 1) = true) (ht2 : (tagI s != 65534) = true) (w : World) :
    Calls Tryz.prog 116 #[.string s] w fun e w' => e = .returned (.tuple #[.agg zeroS, .int .i64 3]) ∧ Below w.heap.size w w' := by
  have HN : Hid ((w.alloc (.cells zeroS 73)).heap[w.heap.size]? = some (.cells zeroS 73 (0, 0))) := heap_alloc_new w _
  have HB : Hid (Below w.heap.size w (w.alloc (.cells zeroS 73))) := (Below.refl _ _).alloc (Nat.le_refl _) _
  have kt := fun w => fromLe_spec (s.extract 0 2) (by rw [ext_size _ _ _ (by omega) (by omega)]; decide) w
  have HT : Hid (tagI s = fromBe (bytesOf (s.extract 0 2)).reverse) := rfl
  rw [HT.out] at ht1 ht2
  generalize fromBe (bytesOf (s.extract 0 2)).reverse = TG at *
  go_enter Tryz.func116, Tryz.ntmps116
  go_wp2_with fail
  refine (kt _).mono ?_
  rintro e w2 ⟨rfl, rfl⟩
  clear kt
  go_wp2_with fail
  exact bodyPost_ret (v := .tuple #[.agg zeroS, .int .i64 3]) (snd_ret HN.out rfl _ _ rfl rfl) rfl ⟨rfl, HB.out⟩

set_option maxRecDepth 20000 in
set_option maxHeartbeats 3200000 in
theorem soundOf_len_a (s : ByteArray) (hs : s.size ≤ 140737488351232) (h : 16 ≤ s.size) (htg : (tagI s != 1) = false) (hg : (tagI s != tagN s.size) = true) (w : World) :
    Calls Tryz.prog 116 #[.string s] w fun e w' => e = .returned (.tuple #[.agg zeroS, .int .i64 2]) ∧ Below w.heap.size w w' := by
  have HN : Hid ((w.alloc (.cells zeroS 73)).heap[w.heap.size]? = some (.cells zeroS 73 (0, 0))) := heap_alloc_new w _
  have HB : Hid (Below w.heap.size w (w.alloc (.cells zeroS 73))) := (Below.refl _ _).alloc (Nat.le_refl _) _
  have kt := fun w => fromLe_spec (s.extract 0 2) (by rw [ext_size _ _ _ (by omega) (by omega)]; decide) w
  have HT : Hid (tagI s = fromBe (bytesOf (s.extract 0 2)).reverse) := rfl
  have kg := fun w => tagOf_spec s.size w
  rw [HT.out] at htg hg
  generalize fromBe (bytesOf (s.extract 0 2)).reverse = TG at *
  generalize tagN s.size = TN at *
  go_enter Tryz.func116, Tryz.ntmps116
  go_wp2_with fail
  refine (kt _).mono ?_
  rintro e w2 ⟨rfl, rfl⟩
  clear kt
  go_wp2_with fail
  refine (kg _).mono ?_
  rintro e w2 ⟨rfl, rfl⟩
  clear kg
  go_wp2_with fail
  exact bodyPost_ret (v := .tuple #[.agg zeroS, .int .i64 2]) (snd_ret HN.out rfl _ _ rfl rfl) rfl ⟨rfl, HB.out⟩

set_option maxRecDepth 20000 in
set_option maxHeartbeats 3200000 in
theorem soundOf_len_b (s : ByteArray) (hs : s.size ≤ 140737488351232) (h : 16 ≤ s.size) (htg : (tagI s != 1) = true) (htg2 : (tagI s != 65534) = false) (hg : (tagI s != tagN s.size) = true) (w : World) :
    Calls Tryz.prog 116 #[.string s] w fun e w' => e = .returned (.tuple #[.agg zeroS, .int .i64 2]) ∧ Below w.heap.size w w' := by
  have HN : Hid ((w.alloc (.cells zeroS 73)).heap[w.heap.size]? = some (.cells zeroS 73 (0, 0))) := heap_alloc_new w _
  have HB : Hid (Below w.heap.size w (w.alloc (.cells zeroS 73))) := (Below.refl _ _).alloc (Nat.le_refl _) _
  have kt := fun w => fromLe_spec (s.extract 0 2) (by rw [ext_size _ _ _ (by omega) (by omega)]; decide) w
  have HT : Hid (tagI s = fromBe (bytesOf (s.extract 0 2)).reverse) := rfl
  have kg := fun w => tagOf_spec s.size w
  rw [HT.out] at htg htg2 hg
  generalize fromBe (bytesOf (s.extract 0 2)).reverse = TG at *
  generalize tagN s.size = TN at *
  go_enter Tryz.func116, Tryz.ntmps116
  go_wp2_with fail
  refine (kt _).mono ?_
  rintro e w2 ⟨rfl, rfl⟩
  clear kt
  go_wp2_with fail
  refine (kg _).mono ?_
  rintro e w2 ⟨rfl, rfl⟩
  clear kg
  go_wp2_with fail
  exact bodyPost_ret (v := .tuple #[.agg zeroS, .int .i64 2]) (snd_ret HN.out rfl _ _ rfl rfl) rfl ⟨rfl, HB.out⟩

/-- soundOf's boxes: the answer's, and at Q what was read. -/
structure Js (w0 : World) (a : Snd) (Q : Nat) (w : World) : Prop where
  res : w.heap[w0.heap.size]? = some (.cells zeroS 73 (0, 0))
  bq : w.heap[Q]? = some (.cells (sndC a) 73 (0, 0))
  lo : w0.heap.size < Q
  below : Below w0.heap.size w0 w
theorem Js.next {w0 w w1 : World} {a : Snd} {Q : Nat} (h : Js w0 a Q w) (hB : Below w.heap.size w w1) : Js w0 a Q w1 :=
  ⟨by rw [hB.block _ (lt_of_block h.res)]; exact h.res, by rw [hB.block _ (lt_of_block h.bq)]; exact h.bq, h.lo, h.below.trans (hB.mono h.below.size)⟩
theorem Js.s {w0 w : World} {a : Snd} {Q : Nat} (h : Js w0 a Q w) (j : Nat) (v : Value) (hv : (sndC a)[j]? = some v) : w.cell? ⟨Q, j, none⟩ = some v := by rw [cell_of_row _ _ _ _ _ _ h.bq]; exact hv
theorem Js.c {w0 w : World} {a : Snd} {Q : Nat} (h : Js w0 a Q w) (j : Nat) (v : Value) (hv : zeroS[j]? = some v) : w.cell? ⟨w0.heap.size, j, none⟩ = some v := by rw [cell_of_row _ _ _ _ _ _ h.res]; exact hv
theorem Js.z {w0 w : World} {a : Snd} {Q : Nat} (h : Js w0 a Q w) (j : Nat) : w.frozen? ⟨w0.heap.size, j, none⟩ = false := by
  have := h.res
  simp [World.frozen?, this]
theorem Js.out {w0 w : World} {a : Snd} {Q : Nat} (h : Js w0 a Q w) (x y z : Value) :
    (((w.setCell ⟨w0.heap.size, 0, none⟩ x).setCell ⟨w0.heap.size, 1, none⟩ y).setCell ⟨w0.heap.size, 2, none⟩ z).heap[w0.heap.size]? = some (.cells #[x, y, z] 73 (0, 0)) ∧ Below w0.heap.size w0 (((w.setCell ⟨w0.heap.size, 0, none⟩ x).setCell ⟨w0.heap.size, 1, none⟩ y).setCell ⟨w0.heap.size, 2, none⟩ z) := by
  refine ⟨?_, ((h.below.setCell (Nat.le_refl _) _).setCell (Nat.le_refl _) _).setCell (Nat.le_refl _) _⟩
  rw [block_set _ _ _ _ _ _ (block_set _ _ _ _ _ _ (block_set _ _ _ _ _ _ h.res))]
  rfl

end Go.Proofs.YtfnkdahocehilaaGreat

namespace Go.Proofs.YtfnkdahocehilaaGreat
open Go.RowKit
set_option linter.unusedSimpArgs false
set_option linter.unusedVariables false

theorem supB_parts (a : Snd) (hq : supB a = true) : a.ch ≤ 8 ∧ a.rate ≤ 655350 ∧ (a.wd = 8 ∨ a.wd = 16 ∨ a.wd = 24 ∨ a.wd = 32) := by
  unfold supB at hq
  obtain ⟨q1, q2⟩ := Bool.and_eq_true_iff.1 hq
  obtain ⟨q2, q3⟩ := Bool.and_eq_true_iff.1 q2
  refine ⟨of_decide_eq_true q1, of_decide_eq_true q2, ?_⟩
  unfold wdOk at q3
  simp only [Bool.or_eq_true, beq_iff_eq] at q3
  exact q3
theorem good_parts (a : Snd) (h1 : 0 ≤ a.rate) (h2 : 0 ≤ a.ch) (h3 : 0 ≤ a.wd) (hq : supB a = true) : GoodS a := by
  obtain ⟨q1, q2, q3⟩ := supB_parts a hq
  exact ⟨⟨h1, by omega, h2, q1, h3, by omega⟩, q2⟩
theorem good_of (s : ByteArray) (h : 16 ≤ s.size) (hq : supB (sndR s) = true) : GoodS (sndR s) := by
  have h1 := (leI_range (s.extract 4 8) (by rw [ext_size _ _ _ (by omega) (by omega)]; decide)).1
  have h2 := (leI_range (s.extract 2 4) (by rw [ext_size _ _ _ (by omega) (by omega)]; decide)).1
  have h3 := (leI_range (s.extract 14 16) (by rw [ext_size _ _ _ (by omega) (by omega)]; decide)).1
  unfold sndR at hq ⊢
  generalize leI (s.extract 4 8) = x at *
  generalize leI (s.extract 2 4) = y at *
  generalize leI (s.extract 14 16) = z at *
  exact good_parts ⟨x, y, z⟩ h1 h2 h3 hq
theorem fmtLen_of (s : ByteArray) (ht : tagI s = 1 ∨ tagI s = 65534) (hg : tagI s = tagN s.size) : fmtLen s.size := by
  unfold fmtLen
  unfold tagN at hg
  by_cases h1 : s.size = 16 ∨ s.size = 18
  · omega
  · rw [if_neg h1] at hg
    by_cases h2 : s.size = 40
    · exact Or.inr (Or.inr h2)
    · rw [if_neg h2] at hg
      omega

end Go.Proofs.YtfnkdahocehilaaGreat
