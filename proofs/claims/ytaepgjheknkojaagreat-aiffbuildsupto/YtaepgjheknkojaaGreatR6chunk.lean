/- Own text: the walk of the document's 'one': the chunk with which a text begins. -/
import Derived.Test.YtaepgjheknkojaaGreatG7x
import Derived.Test.YtaepgjheknkojaaGreatG6x
import Derived.Deep.RegionHeld3
namespace Go.Proofs.YtaepgjheknkojaaGreat
open Go.RowKit
set_option linter.unusedSimpArgs false
set_option linter.unusedVariables false

abbrev zeroK : Array Value := #[.string ⟨#[]⟩, .string ⟨#[]⟩, .int .i64 0]
abbrev chkC (c : Chk) : Array Value := #[.string c.id, .string c.body, .int .i64 c.pad]
abbrev chkV (c : Chk) : Value := .agg (chkC c)
theorem res_three {fn : Func} {p t u : Tmp} {ty : TypeId} (h : fn.results = #[.cell p ty, .tmp t, .tmp u]) (tmps : Array Value) (P : Program) (w : World) :
    (results fn tmps).run P w = ((asAddr (tmps.getD p undef)).run P w).andThen fun a w₁ => ((loadVar ty a).run P w₁).andThen fun x w₂ => .ok (.tuple #[x, tmps.getD t undef, tmps.getD u undef]) w₂ := by
  simp only [results, h]
  simp [Sem.run_bind, Result.andThen]
theorem infoK : (Tryz.prog.info? 55).map (·.size) = some 3 := by kernel_rfl
theorem ext_run (s : ByteArray) (a b : Nat) (h1 : a ≤ b) (h2 : b ≤ s.size) (w : World) : (Instr.slice 9 (.string s) (some (.int .i64 (a : Int))) (some (.int .i64 (b : Int))) none).run Tryz.prog w = .ok (.string (s.extract a b)) w := slice_run s a b h1 h2 w

set_option maxRecDepth 20000 in
set_option maxHeartbeats 1600000 in
theorem r6one_short (s : ByteArray) (big : Bool) (long : Int) (w : World) (h8 : s.size < 8) :
    Calls Tryz.prog 46 #[.string s, .bool big, .int .i64 long] w fun e w' => e = .returned (.tuple #[.agg zeroK, .int .i64 0, .int .i64 2]) ∧ Below w.heap.size w w' := by
  go_enter Tryz.func46, Tryz.ntmps46
  go_wp2_with fail
  have hrow : (w.alloc (.cells zeroK 55)).heap[w.heap.size]? = some (.cells zeroK 55 (0, 0)) := heap_alloc_new _ _
  refine bodyPost_ret (v := .tuple #[.agg zeroK, .int .i64 0, .int .i64 2]) ?_ rfl ⟨rfl, (Below.refl _ _).alloc (Nat.le_refl _) _⟩
  rw [res_three rfl]
  have hld := run_loadVar_row (P := Tryz.prog) (w.alloc (.cells zeroK 55)) w.heap.size 55 55 zeroK (0, 0) _ hrow Tryz.underlying55 rfl infoK
  simp [asAddr, Result.andThen, hld]

set_option maxRecDepth 20000 in
set_option maxHeartbeats 1600000 in
theorem r6one_noid (s : ByteArray) (big : Bool) (long : Int) (w : World) (h8 : 8 ≤ s.size) (hs : s.size ≤ 200000000000000) (hid : idB (s.extract 0 4) = false) :
    Calls Tryz.prog 46 #[.string s, .bool big, .int .i64 long] w fun e w' => e = .returned (.tuple #[.agg zeroK, .int .i64 0, .int .i64 2]) ∧ Below w.heap.size w w' := by
  have ki := r6id_spec (s.extract 0 4) (by rw [ext_size _ _ _ (by omega) (by omega)]; decide)
  rw [hid] at ki
  go_enter Tryz.func46, Tryz.ntmps46
  go_wp2_with fail
  refine (ki _).mono ?_
  rintro e w2 ⟨rfl, rfl⟩
  go_wp2_with fail
  have hrow : (w.alloc (.cells zeroK 55)).heap[w.heap.size]? = some (.cells zeroK 55 (0, 0)) := heap_alloc_new _ _
  refine bodyPost_ret (v := .tuple #[.agg zeroK, .int .i64 0, .int .i64 2]) ?_ rfl ⟨rfl, (Below.refl _ _).alloc (Nat.le_refl _) _⟩
  rw [res_three rfl]
  have hld := run_loadVar_row (P := Tryz.prog) (w.alloc (.cells zeroK 55)) w.heap.size 55 55 zeroK (0, 0) _ hrow Tryz.underlying55 rfl infoK
  simp [asAddr, Result.andThen, hld]

/-- The answer's box with zeros. -/
structure Jk (w0 w : World) : Prop where
  res : w.heap[w0.heap.size]? = some (.cells zeroK 55 (0, 0))
  below : Below w0.heap.size w0 w
theorem Jk.new (w : World) : Jk w (w.alloc (.cells zeroK 55)) := ⟨heap_alloc_new _ _, (Below.refl _ _).alloc (Nat.le_refl _) _⟩
theorem Jk.next {w0 w w1 : World} (h : Jk w0 w) (hB : Below w.heap.size w w1) : Jk w0 w1 := ⟨by rw [hB.block _ (lt_of_block h.res)]; exact h.res, h.below.trans (hB.mono h.below.size)⟩
theorem Jk.c {w0 w : World} (h : Jk w0 w) (j : Nat) (v : Value) (hv : zeroK[j]? = some v) : w.cell? ⟨w0.heap.size, j, none⟩ = some v := by rw [cell_of_row _ _ _ _ _ _ h.res]; exact hv
theorem Jk.z {w0 w : World} (h : Jk w0 w) (j : Nat) : w.frozen? ⟨w0.heap.size, j, none⟩ = false := by
  have := h.res
  simp [World.frozen?, this]
/-- The chunk's box at Q, beside the answer's. -/
structure Kc (w0 : World) (Q : Nat) (c0 c1 c2 : Value) (w : World) : Prop where
  jk : Jk w0 w
  bq : w.heap[Q]? = some (.cells #[c0, c1, c2] 55 (0, 0))
  lo : w0.heap.size < Q
theorem Kc.new {w0 w : World} (h : Jk w0 w) (c0 c1 c2 : Value) : Kc w0 w.heap.size c0 c1 c2 (w.alloc (.cells #[c0, c1, c2] 55)).drew := ⟨h.next (((Below.refl _ _).alloc (Nat.le_refl _) _).drew), heap_alloc_new _ _, lt_of_block h.res⟩
theorem Kc.set {w0 w : World} {Q : Nat} {c0 c1 c2 : Value} (h : Kc w0 Q c0 c1 c2 w) (v : Value) : Kc w0 Q c0 c1 v (w.setCell ⟨Q, 2, none⟩ v) := by
  have hl := h.lo
  refine ⟨⟨?_, h.jk.below.setCell (by show w0.heap.size ≤ Q; omega) _⟩, ?_, hl⟩
  · rw [Below.heap_setCell _ _ _ _ (by show w0.heap.size ≠ Q; omega)]
    exact h.jk.res
  · rw [block_set _ _ _ _ _ _ h.bq]
    rfl
theorem Kc.c {w0 w : World} {Q : Nat} {c0 c1 c2 : Value} (h : Kc w0 Q c0 c1 c2 w) (j : Nat) (v : Value) (hv : (#[c0, c1, c2] : Array Value)[j]? = some v) : w.cell? ⟨Q, j, none⟩ = some v := by rw [cell_of_row _ _ _ _ _ _ h.bq]; exact hv
theorem Kc.z {w0 w : World} {Q : Nat} {c0 c1 c2 : Value} (h : Kc w0 Q c0 c1 c2 w) (j : Nat) : w.frozen? ⟨Q, j, none⟩ = false := by
  have := h.bq
  simp [World.frozen?, this]
theorem byte_getD (s : ByteArray) (m : Nat) (h : m < s.size) : ((bytesOf s).getD m 0) = (s[m]'h).toNat := by
  rw [List.getD_eq_getElem?_getD, List.getElem?_eq_getElem (by rw [bytesOf_length]; exact h), Option.getD_some, bytesOf_get s m h]

set_option maxRecDepth 20000 in
set_option maxHeartbeats 3200000 in
theorem r6one_far_given (s : ByteArray) (big : Bool) (long : Int) (w : World) (h8 : 8 ≤ s.size) (hs : s.size ≤ 140737488351232) (hid : idB (s.extract 0 4) = true) (hl1 : -9223372036854775808 ≤ long) (hl2 : long ≤ 9223372036854775807) (hg : 0 ≤ long) (hn : ¬ long ≤ (s.size : Int) - 8) :
    Calls Tryz.prog 46 #[.string s, .bool big, .int .i64 long] w fun e w' => e = .returned (.tuple #[.agg zeroK, .int .i64 0, .int .i64 2]) ∧ Below w.heap.size w w' := by
  have ki := r6id_spec (s.extract 0 4) (by rw [ext_size _ _ _ (by omega) (by omega)]; decide)
  rw [hid] at ki
  have kf := r6from_spec (s.extract 4 8) big (by rw [ext_size _ _ _ (by omega) (by omega)]; decide) (w.alloc (.cells zeroK 55))
  have hfr := fromN_range (s.extract 4 8) big (by rw [ext_size _ _ _ (by omega) (by omega)]; decide)
  have HJ : Hid (Jk w (w.alloc (.cells zeroK 55))) := Jk.new w
  generalize fromN (s.extract 4 8) big = F at *
  go_enter Tryz.func46, Tryz.ntmps46
  go_wp2_with fail
  refine (ki _).mono ?_
  rintro e w2 ⟨rfl, rfl⟩
  clear ki
  go_wp2_with fail
  refine kf.mono ?_
  rintro e w3 ⟨rfl, hB⟩
  have HJ3 : Hid (Jk w w3) := HJ.out.next hB
  clear kf hB HJ
  have r0 := HJ3.out.c 0 _ rfl
  have r1 := HJ3.out.c 1 _ rfl
  have r2 := HJ3.out.c 2 _ rfl
  have z0 := HJ3.out.z 0
  have z1 := HJ3.out.z 1
  have z2 := HJ3.out.z 2
  go_wp2_with fail
  generalize hwf : ((w3.setCell ⟨w.heap.size, 0, none⟩ (.string ⟨#[]⟩)).setCell ⟨w.heap.size, 1, none⟩ (.string ⟨#[]⟩)).setCell ⟨w.heap.size, 2, none⟩ (.int .i64 0) = wf
  have hrow : wf.heap[w.heap.size]? = some (.cells #[.string ⟨#[]⟩, .string ⟨#[]⟩, .int .i64 0] 55 (0, 0)) := by
    rw [← hwf, block_set _ _ _ _ _ _ (block_set _ _ _ _ _ _ (block_set _ _ _ _ _ _ HJ3.out.res))]
    rfl
  have hbel : Below w.heap.size w wf := by
    rw [← hwf]
    exact ((HJ3.out.below.setCell (Nat.le_refl _) _).setCell (Nat.le_refl _) _).setCell (Nat.le_refl _) _
  refine bodyPost_ret (v := .tuple #[.agg #[.string ⟨#[]⟩, .string ⟨#[]⟩, .int .i64 0], .int .i64 0, .int .i64 2]) ?_ rfl ⟨rfl, hbel⟩
  rw [res_three rfl]
  have hld := run_loadVar_row (P := Tryz.prog) wf w.heap.size 55 55 #[.string ⟨#[]⟩, .string ⟨#[]⟩, .int .i64 0] (0, 0) _ hrow Tryz.underlying55 rfl infoK
  simp [asAddr, Result.andThen, hld]

set_option maxRecDepth 20000 in
set_option maxHeartbeats 3200000 in
theorem r6one_even_given (s : ByteArray) (big : Bool) (long : Int) (w : World) (h8 : 8 ≤ s.size) (hs : s.size ≤ 140737488351232) (hid : idB (s.extract 0 4) = true) (hl1 : -9223372036854775808 ≤ long) (hl2 : long ≤ 9223372036854775807) (hg : 0 ≤ long) (n : Nat) (hn : long = (n : Int)) (hle : 8 + n ≤ s.size) (hodd : n % 2 = 0) :
    Calls Tryz.prog 46 #[.string s, .bool big, .int .i64 long] w fun e w' => e = .returned (.tuple #[.agg #[.string (s.extract 0 4), .string (s.extract 8 (8 + n)), .int .i64 (0)], .int .i64 ((8 + n : Nat) : Int), .int .i64 0]) ∧ Below w.heap.size w w' := by
  have hmod : (n : Int) % 2 = 0 := by omega
  obtain ⟨m, hm⟩ : ∃ m : Nat, 8 + n = m := ⟨_, rfl⟩
  have hwr : IntKind.i64.wrap (m : Int) = (m : Int) := by
    rw [IntKind.wrap_i64]
    omega
  have hsum : (8 : Int) + (n : Int) = (m : Int) := by omega
  have hsl : ∀ w, (Instr.slice 9 (.string s) (some (.int .i64 8)) (some (.int .i64 (m : Int))) none).run Tryz.prog w = .ok (.string (s.extract 8 m)) w := fun w => ext_run s 8 m (by omega) (by omega) w
  have ki := r6id_spec (s.extract 0 4) (by rw [ext_size _ _ _ (by omega) (by omega)]; decide)
  rw [hid] at ki
  have kf := r6from_spec (s.extract 4 8) big (by rw [ext_size _ _ _ (by omega) (by omega)]; decide) (w.alloc (.cells zeroK 55))
  have hfr := fromN_range (s.extract 4 8) big (by rw [ext_size _ _ _ (by omega) (by omega)]; decide)
  have HJ : Hid (Jk w (w.alloc (.cells zeroK 55))) := Jk.new w
  subst hn
  go_enter Tryz.func46, Tryz.ntmps46
  go_wp2_with fail
  refine (ki _).mono ?_
  rintro e w2 ⟨rfl, rfl⟩
  clear ki
  go_wp2_with fail
  refine kf.mono ?_
  rintro e w3 ⟨rfl, hB⟩
  have HJ3 : Hid (Jk w w3) := HJ.out.next hB
  clear kf hB HJ
  have r0 := HJ3.out.c 0 _ rfl
  have r1 := HJ3.out.c 1 _ rfl
  have r2 := HJ3.out.c 2 _ rfl
  have z0 := HJ3.out.z 0
  have z1 := HJ3.out.z 1
  have z2 := HJ3.out.z 2
  go_wp2_with fail
  go_region_held3 (fun _ => True) (trivial) (fail)
  clear r0 r1 r2 z0 z1 z2
  have HK0 : Hid (Kc w w3.heap.size (.string (s.extract 0 4)) (.string (s.extract 8 m)) (.int .i64 0) (w3.alloc (.cells #[.string (s.extract 0 4), .string (s.extract 8 m), .int .i64 0] 55)).drew) := Kc.new HJ3.out _ _ _
  generalize (w3.alloc (.cells #[.string (s.extract 0 4), .string (s.extract 8 m), .int .i64 0] 55)).drew = wc at *
  have hQ : w.heap.size < w3.heap.size := HK0.out.lo
  generalize w3.heap.size = Q at *
  have r0 := HK0.out.jk.c 0 _ rfl
  have r1 := HK0.out.jk.c 1 _ rfl
  have r2 := HK0.out.jk.c 2 _ rfl
  have z0 := HK0.out.jk.z 0
  have z1 := HK0.out.jk.z 1
  have z2 := HK0.out.jk.z 2
  have d0 := HK0.out.c 0 _ rfl
  have d1 := HK0.out.c 1 _ rfl
  have d2 := HK0.out.c 2 _ rfl
  have y2 := HK0.out.z 2
  have hml : m ≤ s.size := by omega
  clear HJ3
  go_wp2_with fail
  have HK : Hid (Kc w Q (.string (s.extract 0 4)) (.string (s.extract 8 m)) (.int .i64 0) wc) := HK0
  generalize wc = W at *
  generalize hwf : ((W.setCell ⟨w.heap.size, 0, none⟩ (.string (s.extract 0 4))).setCell ⟨w.heap.size, 1, none⟩ (.string (s.extract 8 m))).setCell ⟨w.heap.size, 2, none⟩ (.int .i64 0) = wf
  have hrow : wf.heap[w.heap.size]? = some (.cells #[.string (s.extract 0 4), .string (s.extract 8 m), .int .i64 0] 55 (0, 0)) := by
    rw [← hwf, block_set _ _ _ _ _ _ (block_set _ _ _ _ _ _ (block_set _ _ _ _ _ _ HK.out.jk.res))]
    rfl
  have hbel : Below w.heap.size w wf := by
    rw [← hwf]
    exact ((HK.out.jk.below.setCell (Nat.le_refl _) _).setCell (Nat.le_refl _) _).setCell (Nat.le_refl _) _
  refine bodyPost_ret (v := .tuple #[.agg #[.string (s.extract 0 4), .string (s.extract 8 m), .int .i64 0], .int .i64 (m : Int), .int .i64 0]) ?_ rfl ⟨by rw [hm], hbel⟩
  rw [res_three rfl]
  have hld := run_loadVar_row (P := Tryz.prog) wf w.heap.size 55 55 #[.string (s.extract 0 4), .string (s.extract 8 m), .int .i64 0] (0, 0) _ hrow Tryz.underlying55 rfl infoK
  simp [asAddr, Result.andThen, hld]

set_option maxRecDepth 20000 in
set_option maxHeartbeats 3200000 in
theorem r6one_pad_given (s : ByteArray) (big : Bool) (long : Int) (w : World) (h8 : 8 ≤ s.size) (hs : s.size ≤ 140737488351232) (hid : idB (s.extract 0 4) = true) (hl1 : -9223372036854775808 ≤ long) (hl2 : long ≤ 9223372036854775807) (hg : 0 ≤ long) (n : Nat) (hn : long = (n : Int)) (hle : 8 + n ≤ s.size) (hodd : n % 2 = 1) (hlt : 8 + n < s.size) :
    Calls Tryz.prog 46 #[.string s, .bool big, .int .i64 long] w fun e w' => e = .returned (.tuple #[.agg #[.string (s.extract 0 4), .string (s.extract 8 (8 + n)), .int .i64 (((bytesOf s).getD (8 + n) 0 : Int))], .int .i64 ((8 + n + 1 : Nat) : Int), .int .i64 0]) ∧ Below w.heap.size w w' := by
  have hmod : (n : Int) % 2 = 1 := by omega
  obtain ⟨m, hm⟩ : ∃ m : Nat, 8 + n = m := ⟨_, rfl⟩
  have hwr : IntKind.i64.wrap (m : Int) = (m : Int) := by
    rw [IntKind.wrap_i64]
    omega
  have hsum : (8 : Int) + (n : Int) = (m : Int) := by omega
  have hsl : ∀ w, (Instr.slice 9 (.string s) (some (.int .i64 8)) (some (.int .i64 (m : Int))) none).run Tryz.prog w = .ok (.string (s.extract 8 m)) w := fun w => ext_run s 8 m (by omega) (by omega) w
  have ki := r6id_spec (s.extract 0 4) (by rw [ext_size _ _ _ (by omega) (by omega)]; decide)
  rw [hid] at ki
  have kf := r6from_spec (s.extract 4 8) big (by rw [ext_size _ _ _ (by omega) (by omega)]; decide) (w.alloc (.cells zeroK 55))
  have hfr := fromN_range (s.extract 4 8) big (by rw [ext_size _ _ _ (by omega) (by omega)]; decide)
  have HJ : Hid (Jk w (w.alloc (.cells zeroK 55))) := Jk.new w
  subst hn
  go_enter Tryz.func46, Tryz.ntmps46
  go_wp2_with fail
  refine (ki _).mono ?_
  rintro e w2 ⟨rfl, rfl⟩
  clear ki
  go_wp2_with fail
  refine kf.mono ?_
  rintro e w3 ⟨rfl, hB⟩
  have HJ3 : Hid (Jk w w3) := HJ.out.next hB
  clear kf hB HJ
  have r0 := HJ3.out.c 0 _ rfl
  have r1 := HJ3.out.c 1 _ rfl
  have r2 := HJ3.out.c 2 _ rfl
  have z0 := HJ3.out.z 0
  have z1 := HJ3.out.z 1
  have z2 := HJ3.out.z 2
  go_wp2_with fail
  go_region_held3 (fun _ => True) (trivial) (fail)
  clear r0 r1 r2 z0 z1 z2
  have HK0 : Hid (Kc w w3.heap.size (.string (s.extract 0 4)) (.string (s.extract 8 m)) (.int .i64 0) (w3.alloc (.cells #[.string (s.extract 0 4), .string (s.extract 8 m), .int .i64 0] 55)).drew) := Kc.new HJ3.out _ _ _
  generalize (w3.alloc (.cells #[.string (s.extract 0 4), .string (s.extract 8 m), .int .i64 0] 55)).drew = wc at *
  have hQ : w.heap.size < w3.heap.size := HK0.out.lo
  generalize w3.heap.size = Q at *
  have r0 := HK0.out.jk.c 0 _ rfl
  have r1 := HK0.out.jk.c 1 _ rfl
  have r2 := HK0.out.jk.c 2 _ rfl
  have z0 := HK0.out.jk.z 0
  have z1 := HK0.out.jk.z 1
  have z2 := HK0.out.jk.z 2
  have d0 := HK0.out.c 0 _ rfl
  have d1 := HK0.out.c 1 _ rfl
  have d2 := HK0.out.c 2 _ rfl
  have y2 := HK0.out.z 2
  have HBY : Hid ((bytesOf s).getD (8 + n) 0 = (s[m]'(by omega)).toNat) := by
    show _ = _
    rw [hm, byte_getD s m (by omega)]
  have hml : m ≤ s.size := by omega
  have hmlt : m < s.size := by omega
  have hbb : (s[m]'hmlt).toNat < 256 := (s[m]'hmlt).toNat_lt
  clear HJ3
  go_wp2_with fail
  have HK : Hid (Kc w Q (.string (s.extract 0 4)) (.string (s.extract 8 m)) (.int .i64 ((s[m]'hmlt).toNat : Int)) ((wc.setCell ⟨Q, 2, none⟩ (.int .i64 (-1))).setCell ⟨Q, 2, none⟩ (.int .i64 ((s[m]'hmlt).toNat : Int)))) := (HK0.out.set _).set _
  generalize (wc.setCell ⟨Q, 2, none⟩ (.int .i64 (-1))).setCell ⟨Q, 2, none⟩ (.int .i64 ((s[m]'hmlt).toNat : Int)) = W at *
  generalize hwf : ((W.setCell ⟨w.heap.size, 0, none⟩ (.string (s.extract 0 4))).setCell ⟨w.heap.size, 1, none⟩ (.string (s.extract 8 m))).setCell ⟨w.heap.size, 2, none⟩ ((.int .i64 ((s[m]'hmlt).toNat : Int))) = wf
  have hrow : wf.heap[w.heap.size]? = some (.cells #[.string (s.extract 0 4), .string (s.extract 8 m), (.int .i64 ((s[m]'hmlt).toNat : Int))] 55 (0, 0)) := by
    rw [← hwf, block_set _ _ _ _ _ _ (block_set _ _ _ _ _ _ (block_set _ _ _ _ _ _ HK.out.jk.res))]
    rfl
  have hbel : Below w.heap.size w wf := by
    rw [← hwf]
    exact ((HK.out.jk.below.setCell (Nat.le_refl _) _).setCell (Nat.le_refl _) _).setCell (Nat.le_refl _) _
  refine bodyPost_ret (v := .tuple #[.agg #[.string (s.extract 0 4), .string (s.extract 8 m), (.int .i64 ((s[m]'hmlt).toNat : Int))], .int .i64 ((m + 1 : Nat) : Int), .int .i64 0]) ?_ rfl ⟨by rw [HBY.out, hm], hbel⟩
  rw [res_three rfl]
  have hld := run_loadVar_row (P := Tryz.prog) wf w.heap.size 55 55 #[.string (s.extract 0 4), .string (s.extract 8 m), (.int .i64 ((s[m]'hmlt).toNat : Int))] (0, 0) _ hrow Tryz.underlying55 rfl infoK
  simp [asAddr, Result.andThen, hld]

set_option maxRecDepth 20000 in
set_option maxHeartbeats 3200000 in
theorem r6one_end_given (s : ByteArray) (big : Bool) (long : Int) (w : World) (h8 : 8 ≤ s.size) (hs : s.size ≤ 140737488351232) (hid : idB (s.extract 0 4) = true) (hl1 : -9223372036854775808 ≤ long) (hl2 : long ≤ 9223372036854775807) (hg : 0 ≤ long) (n : Nat) (hn : long = (n : Int)) (hle : 8 + n ≤ s.size) (hodd : n % 2 = 1) (hlt : ¬ 8 + n < s.size) :
    Calls Tryz.prog 46 #[.string s, .bool big, .int .i64 long] w fun e w' => e = .returned (.tuple #[.agg #[.string (s.extract 0 4), .string (s.extract 8 (8 + n)), .int .i64 (-1)], .int .i64 ((8 + n : Nat) : Int), .int .i64 0]) ∧ Below w.heap.size w w' := by
  have hmod : (n : Int) % 2 = 1 := by omega
  obtain ⟨m, hm⟩ : ∃ m : Nat, 8 + n = m := ⟨_, rfl⟩
  have hwr : IntKind.i64.wrap (m : Int) = (m : Int) := by
    rw [IntKind.wrap_i64]
    omega
  have hsum : (8 : Int) + (n : Int) = (m : Int) := by omega
  have hsl : ∀ w, (Instr.slice 9 (.string s) (some (.int .i64 8)) (some (.int .i64 (m : Int))) none).run Tryz.prog w = .ok (.string (s.extract 8 m)) w := fun w => ext_run s 8 m (by omega) (by omega) w
  have ki := r6id_spec (s.extract 0 4) (by rw [ext_size _ _ _ (by omega) (by omega)]; decide)
  rw [hid] at ki
  have kf := r6from_spec (s.extract 4 8) big (by rw [ext_size _ _ _ (by omega) (by omega)]; decide) (w.alloc (.cells zeroK 55))
  have hfr := fromN_range (s.extract 4 8) big (by rw [ext_size _ _ _ (by omega) (by omega)]; decide)
  have HJ : Hid (Jk w (w.alloc (.cells zeroK 55))) := Jk.new w
  subst hn
  go_enter Tryz.func46, Tryz.ntmps46
  go_wp2_with fail
  refine (ki _).mono ?_
  rintro e w2 ⟨rfl, rfl⟩
  clear ki
  go_wp2_with fail
  refine kf.mono ?_
  rintro e w3 ⟨rfl, hB⟩
  have HJ3 : Hid (Jk w w3) := HJ.out.next hB
  clear kf hB HJ
  have r0 := HJ3.out.c 0 _ rfl
  have r1 := HJ3.out.c 1 _ rfl
  have r2 := HJ3.out.c 2 _ rfl
  have z0 := HJ3.out.z 0
  have z1 := HJ3.out.z 1
  have z2 := HJ3.out.z 2
  go_wp2_with fail
  go_region_held3 (fun _ => True) (trivial) (fail)
  clear r0 r1 r2 z0 z1 z2
  have HK0 : Hid (Kc w w3.heap.size (.string (s.extract 0 4)) (.string (s.extract 8 m)) (.int .i64 0) (w3.alloc (.cells #[.string (s.extract 0 4), .string (s.extract 8 m), .int .i64 0] 55)).drew) := Kc.new HJ3.out _ _ _
  generalize (w3.alloc (.cells #[.string (s.extract 0 4), .string (s.extract 8 m), .int .i64 0] 55)).drew = wc at *
  have hQ : w.heap.size < w3.heap.size := HK0.out.lo
  generalize w3.heap.size = Q at *
  have r0 := HK0.out.jk.c 0 _ rfl
  have r1 := HK0.out.jk.c 1 _ rfl
  have r2 := HK0.out.jk.c 2 _ rfl
  have z0 := HK0.out.jk.z 0
  have z1 := HK0.out.jk.z 1
  have z2 := HK0.out.jk.z 2
  have d0 := HK0.out.c 0 _ rfl
  have d1 := HK0.out.c 1 _ rfl
  have d2 := HK0.out.c 2 _ rfl
  have y2 := HK0.out.z 2
  have hml : m ≤ s.size := by omega
  have hmlt : ¬ m < s.size := by omega
  clear HJ3
  go_wp2_with fail
  have HK : Hid (Kc w Q (.string (s.extract 0 4)) (.string (s.extract 8 m)) (.int .i64 (-1)) (wc.setCell ⟨Q, 2, none⟩ (.int .i64 (-1)))) := HK0.out.set _
  generalize wc.setCell ⟨Q, 2, none⟩ (.int .i64 (-1)) = W at *
  generalize hwf : ((W.setCell ⟨w.heap.size, 0, none⟩ (.string (s.extract 0 4))).setCell ⟨w.heap.size, 1, none⟩ (.string (s.extract 8 m))).setCell ⟨w.heap.size, 2, none⟩ (.int .i64 (-1)) = wf
  have hrow : wf.heap[w.heap.size]? = some (.cells #[.string (s.extract 0 4), .string (s.extract 8 m), .int .i64 (-1)] 55 (0, 0)) := by
    rw [← hwf, block_set _ _ _ _ _ _ (block_set _ _ _ _ _ _ (block_set _ _ _ _ _ _ HK.out.jk.res))]
    rfl
  have hbel : Below w.heap.size w wf := by
    rw [← hwf]
    exact ((HK.out.jk.below.setCell (Nat.le_refl _) _).setCell (Nat.le_refl _) _).setCell (Nat.le_refl _) _
  refine bodyPost_ret (v := .tuple #[.agg #[.string (s.extract 0 4), .string (s.extract 8 m), .int .i64 (-1)], .int .i64 (m : Int), .int .i64 0]) ?_ rfl ⟨by rw [hm], hbel⟩
  rw [res_three rfl]
  have hld := run_loadVar_row (P := Tryz.prog) wf w.heap.size 55 55 #[.string (s.extract 0 4), .string (s.extract 8 m), .int .i64 (-1)] (0, 0) _ hrow Tryz.underlying55 rfl infoK
  simp [asAddr, Result.andThen, hld]

set_option maxRecDepth 20000 in
set_option maxHeartbeats 3200000 in
theorem r6one_far_read (s : ByteArray) (big : Bool) (long : Int) (w : World) (h8 : 8 ≤ s.size) (hs : s.size ≤ 140737488351232) (hid : idB (s.extract 0 4) = true) (hl1 : -9223372036854775808 ≤ long) (hl2 : long ≤ 9223372036854775807) (hg : ¬ 0 ≤ long) (hn : ¬ fromN (s.extract 4 8) big ≤ (s.size : Int) - 8) :
    Calls Tryz.prog 46 #[.string s, .bool big, .int .i64 long] w fun e w' => e = .returned (.tuple #[.agg zeroK, .int .i64 0, .int .i64 2]) ∧ Below w.heap.size w w' := by
  have ki := r6id_spec (s.extract 0 4) (by rw [ext_size _ _ _ (by omega) (by omega)]; decide)
  rw [hid] at ki
  have kf := r6from_spec (s.extract 4 8) big (by rw [ext_size _ _ _ (by omega) (by omega)]; decide) (w.alloc (.cells zeroK 55))
  have hfr := fromN_range (s.extract 4 8) big (by rw [ext_size _ _ _ (by omega) (by omega)]; decide)
  have HJ : Hid (Jk w (w.alloc (.cells zeroK 55))) := Jk.new w
  generalize fromN (s.extract 4 8) big = F at *
  go_enter Tryz.func46, Tryz.ntmps46
  go_wp2_with fail
  refine (ki _).mono ?_
  rintro e w2 ⟨rfl, rfl⟩
  clear ki
  go_wp2_with fail
  refine kf.mono ?_
  rintro e w3 ⟨rfl, hB⟩
  have HJ3 : Hid (Jk w w3) := HJ.out.next hB
  clear kf hB HJ
  have r0 := HJ3.out.c 0 _ rfl
  have r1 := HJ3.out.c 1 _ rfl
  have r2 := HJ3.out.c 2 _ rfl
  have z0 := HJ3.out.z 0
  have z1 := HJ3.out.z 1
  have z2 := HJ3.out.z 2
  go_wp2_with fail
  generalize hwf : ((w3.setCell ⟨w.heap.size, 0, none⟩ (.string ⟨#[]⟩)).setCell ⟨w.heap.size, 1, none⟩ (.string ⟨#[]⟩)).setCell ⟨w.heap.size, 2, none⟩ (.int .i64 0) = wf
  have hrow : wf.heap[w.heap.size]? = some (.cells #[.string ⟨#[]⟩, .string ⟨#[]⟩, .int .i64 0] 55 (0, 0)) := by
    rw [← hwf, block_set _ _ _ _ _ _ (block_set _ _ _ _ _ _ (block_set _ _ _ _ _ _ HJ3.out.res))]
    rfl
  have hbel : Below w.heap.size w wf := by
    rw [← hwf]
    exact ((HJ3.out.below.setCell (Nat.le_refl _) _).setCell (Nat.le_refl _) _).setCell (Nat.le_refl _) _
  refine bodyPost_ret (v := .tuple #[.agg #[.string ⟨#[]⟩, .string ⟨#[]⟩, .int .i64 0], .int .i64 0, .int .i64 2]) ?_ rfl ⟨rfl, hbel⟩
  rw [res_three rfl]
  have hld := run_loadVar_row (P := Tryz.prog) wf w.heap.size 55 55 #[.string ⟨#[]⟩, .string ⟨#[]⟩, .int .i64 0] (0, 0) _ hrow Tryz.underlying55 rfl infoK
  simp [asAddr, Result.andThen, hld]

set_option maxRecDepth 20000 in
set_option maxHeartbeats 3200000 in
theorem r6one_even_read (s : ByteArray) (big : Bool) (long : Int) (w : World) (h8 : 8 ≤ s.size) (hs : s.size ≤ 140737488351232) (hid : idB (s.extract 0 4) = true) (hl1 : -9223372036854775808 ≤ long) (hl2 : long ≤ 9223372036854775807) (hg : ¬ 0 ≤ long) (n : Nat) (hn : fromN (s.extract 4 8) big = (n : Int)) (hle : 8 + n ≤ s.size) (hodd : n % 2 = 0) :
    Calls Tryz.prog 46 #[.string s, .bool big, .int .i64 long] w fun e w' => e = .returned (.tuple #[.agg #[.string (s.extract 0 4), .string (s.extract 8 (8 + n)), .int .i64 (0)], .int .i64 ((8 + n : Nat) : Int), .int .i64 0]) ∧ Below w.heap.size w w' := by
  have hmod : (n : Int) % 2 = 0 := by omega
  obtain ⟨m, hm⟩ : ∃ m : Nat, 8 + n = m := ⟨_, rfl⟩
  have hwr : IntKind.i64.wrap (m : Int) = (m : Int) := by
    rw [IntKind.wrap_i64]
    omega
  have hsum : (8 : Int) + (n : Int) = (m : Int) := by omega
  have hsl : ∀ w, (Instr.slice 9 (.string s) (some (.int .i64 8)) (some (.int .i64 (m : Int))) none).run Tryz.prog w = .ok (.string (s.extract 8 m)) w := fun w => ext_run s 8 m (by omega) (by omega) w
  have ki := r6id_spec (s.extract 0 4) (by rw [ext_size _ _ _ (by omega) (by omega)]; decide)
  rw [hid] at ki
  have kf := r6from_spec (s.extract 4 8) big (by rw [ext_size _ _ _ (by omega) (by omega)]; decide) (w.alloc (.cells zeroK 55))
  have hfr := fromN_range (s.extract 4 8) big (by rw [ext_size _ _ _ (by omega) (by omega)]; decide)
  have HJ : Hid (Jk w (w.alloc (.cells zeroK 55))) := Jk.new w
  rw [hn] at kf hfr
  clear hn
  go_enter Tryz.func46, Tryz.ntmps46
  go_wp2_with fail
  refine (ki _).mono ?_
  rintro e w2 ⟨rfl, rfl⟩
  clear ki
  go_wp2_with fail
  refine kf.mono ?_
  rintro e w3 ⟨rfl, hB⟩
  have HJ3 : Hid (Jk w w3) := HJ.out.next hB
  clear kf hB HJ
  have r0 := HJ3.out.c 0 _ rfl
  have r1 := HJ3.out.c 1 _ rfl
  have r2 := HJ3.out.c 2 _ rfl
  have z0 := HJ3.out.z 0
  have z1 := HJ3.out.z 1
  have z2 := HJ3.out.z 2
  go_wp2_with fail
  go_region_held3 (fun _ => True) (trivial) (fail)
  clear r0 r1 r2 z0 z1 z2
  have HK0 : Hid (Kc w w3.heap.size (.string (s.extract 0 4)) (.string (s.extract 8 m)) (.int .i64 0) (w3.alloc (.cells #[.string (s.extract 0 4), .string (s.extract 8 m), .int .i64 0] 55)).drew) := Kc.new HJ3.out _ _ _
  generalize (w3.alloc (.cells #[.string (s.extract 0 4), .string (s.extract 8 m), .int .i64 0] 55)).drew = wc at *
  have hQ : w.heap.size < w3.heap.size := HK0.out.lo
  generalize w3.heap.size = Q at *
  have r0 := HK0.out.jk.c 0 _ rfl
  have r1 := HK0.out.jk.c 1 _ rfl
  have r2 := HK0.out.jk.c 2 _ rfl
  have z0 := HK0.out.jk.z 0
  have z1 := HK0.out.jk.z 1
  have z2 := HK0.out.jk.z 2
  have d0 := HK0.out.c 0 _ rfl
  have d1 := HK0.out.c 1 _ rfl
  have d2 := HK0.out.c 2 _ rfl
  have y2 := HK0.out.z 2
  have hml : m ≤ s.size := by omega
  clear HJ3
  go_wp2_with fail
  have HK : Hid (Kc w Q (.string (s.extract 0 4)) (.string (s.extract 8 m)) (.int .i64 0) wc) := HK0
  generalize wc = W at *
  generalize hwf : ((W.setCell ⟨w.heap.size, 0, none⟩ (.string (s.extract 0 4))).setCell ⟨w.heap.size, 1, none⟩ (.string (s.extract 8 m))).setCell ⟨w.heap.size, 2, none⟩ (.int .i64 0) = wf
  have hrow : wf.heap[w.heap.size]? = some (.cells #[.string (s.extract 0 4), .string (s.extract 8 m), .int .i64 0] 55 (0, 0)) := by
    rw [← hwf, block_set _ _ _ _ _ _ (block_set _ _ _ _ _ _ (block_set _ _ _ _ _ _ HK.out.jk.res))]
    rfl
  have hbel : Below w.heap.size w wf := by
    rw [← hwf]
    exact ((HK.out.jk.below.setCell (Nat.le_refl _) _).setCell (Nat.le_refl _) _).setCell (Nat.le_refl _) _
  refine bodyPost_ret (v := .tuple #[.agg #[.string (s.extract 0 4), .string (s.extract 8 m), .int .i64 0], .int .i64 (m : Int), .int .i64 0]) ?_ rfl ⟨by rw [hm], hbel⟩
  rw [res_three rfl]
  have hld := run_loadVar_row (P := Tryz.prog) wf w.heap.size 55 55 #[.string (s.extract 0 4), .string (s.extract 8 m), .int .i64 0] (0, 0) _ hrow Tryz.underlying55 rfl infoK
  simp [asAddr, Result.andThen, hld]

set_option maxRecDepth 20000 in
set_option maxHeartbeats 3200000 in
theorem r6one_pad_read (s : ByteArray) (big : Bool) (long : Int) (w : World) (h8 : 8 ≤ s.size) (hs : s.size ≤ 140737488351232) (hid : idB (s.extract 0 4) = true) (hl1 : -9223372036854775808 ≤ long) (hl2 : long ≤ 9223372036854775807) (hg : ¬ 0 ≤ long) (n : Nat) (hn : fromN (s.extract 4 8) big = (n : Int)) (hle : 8 + n ≤ s.size) (hodd : n % 2 = 1) (hlt : 8 + n < s.size) :
    Calls Tryz.prog 46 #[.string s, .bool big, .int .i64 long] w fun e w' => e = .returned (.tuple #[.agg #[.string (s.extract 0 4), .string (s.extract 8 (8 + n)), .int .i64 (((bytesOf s).getD (8 + n) 0 : Int))], .int .i64 ((8 + n + 1 : Nat) : Int), .int .i64 0]) ∧ Below w.heap.size w w' := by
  have hmod : (n : Int) % 2 = 1 := by omega
  obtain ⟨m, hm⟩ : ∃ m : Nat, 8 + n = m := ⟨_, rfl⟩
  have hwr : IntKind.i64.wrap (m : Int) = (m : Int) := by
    rw [IntKind.wrap_i64]
    omega
  have hsum : (8 : Int) + (n : Int) = (m : Int) := by omega
  have hsl : ∀ w, (Instr.slice 9 (.string s) (some (.int .i64 8)) (some (.int .i64 (m : Int))) none).run Tryz.prog w = .ok (.string (s.extract 8 m)) w := fun w => ext_run s 8 m (by omega) (by omega) w
  have ki := r6id_spec (s.extract 0 4) (by rw [ext_size _ _ _ (by omega) (by omega)]; decide)
  rw [hid] at ki
  have kf := r6from_spec (s.extract 4 8) big (by rw [ext_size _ _ _ (by omega) (by omega)]; decide) (w.alloc (.cells zeroK 55))
  have hfr := fromN_range (s.extract 4 8) big (by rw [ext_size _ _ _ (by omega) (by omega)]; decide)
  have HJ : Hid (Jk w (w.alloc (.cells zeroK 55))) := Jk.new w
  rw [hn] at kf hfr
  clear hn
  go_enter Tryz.func46, Tryz.ntmps46
  go_wp2_with fail
  refine (ki _).mono ?_
  rintro e w2 ⟨rfl, rfl⟩
  clear ki
  go_wp2_with fail
  refine kf.mono ?_
  rintro e w3 ⟨rfl, hB⟩
  have HJ3 : Hid (Jk w w3) := HJ.out.next hB
  clear kf hB HJ
  have r0 := HJ3.out.c 0 _ rfl
  have r1 := HJ3.out.c 1 _ rfl
  have r2 := HJ3.out.c 2 _ rfl
  have z0 := HJ3.out.z 0
  have z1 := HJ3.out.z 1
  have z2 := HJ3.out.z 2
  go_wp2_with fail
  go_region_held3 (fun _ => True) (trivial) (fail)
  clear r0 r1 r2 z0 z1 z2
  have HK0 : Hid (Kc w w3.heap.size (.string (s.extract 0 4)) (.string (s.extract 8 m)) (.int .i64 0) (w3.alloc (.cells #[.string (s.extract 0 4), .string (s.extract 8 m), .int .i64 0] 55)).drew) := Kc.new HJ3.out _ _ _
  generalize (w3.alloc (.cells #[.string (s.extract 0 4), .string (s.extract 8 m), .int .i64 0] 55)).drew = wc at *
  have hQ : w.heap.size < w3.heap.size := HK0.out.lo
  generalize w3.heap.size = Q at *
  have r0 := HK0.out.jk.c 0 _ rfl
  have r1 := HK0.out.jk.c 1 _ rfl
  have r2 := HK0.out.jk.c 2 _ rfl
  have z0 := HK0.out.jk.z 0
  have z1 := HK0.out.jk.z 1
  have z2 := HK0.out.jk.z 2
  have d0 := HK0.out.c 0 _ rfl
  have d1 := HK0.out.c 1 _ rfl
  have d2 := HK0.out.c 2 _ rfl
  have y2 := HK0.out.z 2
  have HBY : Hid ((bytesOf s).getD (8 + n) 0 = (s[m]'(by omega)).toNat) := by
    show _ = _
    rw [hm, byte_getD s m (by omega)]
  have hml : m ≤ s.size := by omega
  have hmlt : m < s.size := by omega
  have hbb : (s[m]'hmlt).toNat < 256 := (s[m]'hmlt).toNat_lt
  clear HJ3
  go_wp2_with fail
  have HK : Hid (Kc w Q (.string (s.extract 0 4)) (.string (s.extract 8 m)) (.int .i64 ((s[m]'hmlt).toNat : Int)) ((wc.setCell ⟨Q, 2, none⟩ (.int .i64 (-1))).setCell ⟨Q, 2, none⟩ (.int .i64 ((s[m]'hmlt).toNat : Int)))) := (HK0.out.set _).set _
  generalize (wc.setCell ⟨Q, 2, none⟩ (.int .i64 (-1))).setCell ⟨Q, 2, none⟩ (.int .i64 ((s[m]'hmlt).toNat : Int)) = W at *
  generalize hwf : ((W.setCell ⟨w.heap.size, 0, none⟩ (.string (s.extract 0 4))).setCell ⟨w.heap.size, 1, none⟩ (.string (s.extract 8 m))).setCell ⟨w.heap.size, 2, none⟩ ((.int .i64 ((s[m]'hmlt).toNat : Int))) = wf
  have hrow : wf.heap[w.heap.size]? = some (.cells #[.string (s.extract 0 4), .string (s.extract 8 m), (.int .i64 ((s[m]'hmlt).toNat : Int))] 55 (0, 0)) := by
    rw [← hwf, block_set _ _ _ _ _ _ (block_set _ _ _ _ _ _ (block_set _ _ _ _ _ _ HK.out.jk.res))]
    rfl
  have hbel : Below w.heap.size w wf := by
    rw [← hwf]
    exact ((HK.out.jk.below.setCell (Nat.le_refl _) _).setCell (Nat.le_refl _) _).setCell (Nat.le_refl _) _
  refine bodyPost_ret (v := .tuple #[.agg #[.string (s.extract 0 4), .string (s.extract 8 m), (.int .i64 ((s[m]'hmlt).toNat : Int))], .int .i64 ((m + 1 : Nat) : Int), .int .i64 0]) ?_ rfl ⟨by rw [HBY.out, hm], hbel⟩
  rw [res_three rfl]
  have hld := run_loadVar_row (P := Tryz.prog) wf w.heap.size 55 55 #[.string (s.extract 0 4), .string (s.extract 8 m), (.int .i64 ((s[m]'hmlt).toNat : Int))] (0, 0) _ hrow Tryz.underlying55 rfl infoK
  simp [asAddr, Result.andThen, hld]

set_option maxRecDepth 20000 in
set_option maxHeartbeats 3200000 in
theorem r6one_end_read (s : ByteArray) (big : Bool) (long : Int) (w : World) (h8 : 8 ≤ s.size) (hs : s.size ≤ 140737488351232) (hid : idB (s.extract 0 4) = true) (hl1 : -9223372036854775808 ≤ long) (hl2 : long ≤ 9223372036854775807) (hg : ¬ 0 ≤ long) (n : Nat) (hn : fromN (s.extract 4 8) big = (n : Int)) (hle : 8 + n ≤ s.size) (hodd : n % 2 = 1) (hlt : ¬ 8 + n < s.size) :
    Calls Tryz.prog 46 #[.string s, .bool big, .int .i64 long] w fun e w' => e = .returned (.tuple #[.agg #[.string (s.extract 0 4), .string (s.extract 8 (8 + n)), .int .i64 (-1)], .int .i64 ((8 + n : Nat) : Int), .int .i64 0]) ∧ Below w.heap.size w w' := by
  have hmod : (n : Int) % 2 = 1 := by omega
  obtain ⟨m, hm⟩ : ∃ m : Nat, 8 + n = m := ⟨_, rfl⟩
  have hwr : IntKind.i64.wrap (m : Int) = (m : Int) := by
    rw [IntKind.wrap_i64]
    omega
  have hsum : (8 : Int) + (n : Int) = (m : Int) := by omega
  have hsl : ∀ w, (Instr.slice 9 (.string s) (some (.int .i64 8)) (some (.int .i64 (m : Int))) none).run Tryz.prog w = .ok (.string (s.extract 8 m)) w := fun w => ext_run s 8 m (by omega) (by omega) w
  have ki := r6id_spec (s.extract 0 4) (by rw [ext_size _ _ _ (by omega) (by omega)]; decide)
  rw [hid] at ki
  have kf := r6from_spec (s.extract 4 8) big (by rw [ext_size _ _ _ (by omega) (by omega)]; decide) (w.alloc (.cells zeroK 55))
  have hfr := fromN_range (s.extract 4 8) big (by rw [ext_size _ _ _ (by omega) (by omega)]; decide)
  have HJ : Hid (Jk w (w.alloc (.cells zeroK 55))) := Jk.new w
  rw [hn] at kf hfr
  clear hn
  go_enter Tryz.func46, Tryz.ntmps46
  go_wp2_with fail
  refine (ki _).mono ?_
  rintro e w2 ⟨rfl, rfl⟩
  clear ki
  go_wp2_with fail
  refine kf.mono ?_
  rintro e w3 ⟨rfl, hB⟩
  have HJ3 : Hid (Jk w w3) := HJ.out.next hB
  clear kf hB HJ
  have r0 := HJ3.out.c 0 _ rfl
  have r1 := HJ3.out.c 1 _ rfl
  have r2 := HJ3.out.c 2 _ rfl
  have z0 := HJ3.out.z 0
  have z1 := HJ3.out.z 1
  have z2 := HJ3.out.z 2
  go_wp2_with fail
  go_region_held3 (fun _ => True) (trivial) (fail)
  clear r0 r1 r2 z0 z1 z2
  have HK0 : Hid (Kc w w3.heap.size (.string (s.extract 0 4)) (.string (s.extract 8 m)) (.int .i64 0) (w3.alloc (.cells #[.string (s.extract 0 4), .string (s.extract 8 m), .int .i64 0] 55)).drew) := Kc.new HJ3.out _ _ _
  generalize (w3.alloc (.cells #[.string (s.extract 0 4), .string (s.extract 8 m), .int .i64 0] 55)).drew = wc at *
  have hQ : w.heap.size < w3.heap.size := HK0.out.lo
  generalize w3.heap.size = Q at *
  have r0 := HK0.out.jk.c 0 _ rfl
  have r1 := HK0.out.jk.c 1 _ rfl
  have r2 := HK0.out.jk.c 2 _ rfl
  have z0 := HK0.out.jk.z 0
  have z1 := HK0.out.jk.z 1
  have z2 := HK0.out.jk.z 2
  have d0 := HK0.out.c 0 _ rfl
  have d1 := HK0.out.c 1 _ rfl
  have d2 := HK0.out.c 2 _ rfl
  have y2 := HK0.out.z 2
  have hml : m ≤ s.size := by omega
  have hmlt : ¬ m < s.size := by omega
  clear HJ3
  go_wp2_with fail
  have HK : Hid (Kc w Q (.string (s.extract 0 4)) (.string (s.extract 8 m)) (.int .i64 (-1)) (wc.setCell ⟨Q, 2, none⟩ (.int .i64 (-1)))) := HK0.out.set _
  generalize wc.setCell ⟨Q, 2, none⟩ (.int .i64 (-1)) = W at *
  generalize hwf : ((W.setCell ⟨w.heap.size, 0, none⟩ (.string (s.extract 0 4))).setCell ⟨w.heap.size, 1, none⟩ (.string (s.extract 8 m))).setCell ⟨w.heap.size, 2, none⟩ (.int .i64 (-1)) = wf
  have hrow : wf.heap[w.heap.size]? = some (.cells #[.string (s.extract 0 4), .string (s.extract 8 m), .int .i64 (-1)] 55 (0, 0)) := by
    rw [← hwf, block_set _ _ _ _ _ _ (block_set _ _ _ _ _ _ (block_set _ _ _ _ _ _ HK.out.jk.res))]
    rfl
  have hbel : Below w.heap.size w wf := by
    rw [← hwf]
    exact ((HK.out.jk.below.setCell (Nat.le_refl _) _).setCell (Nat.le_refl _) _).setCell (Nat.le_refl _) _
  refine bodyPost_ret (v := .tuple #[.agg #[.string (s.extract 0 4), .string (s.extract 8 m), .int .i64 (-1)], .int .i64 (m : Int), .int .i64 0]) ?_ rfl ⟨by rw [hm], hbel⟩
  rw [res_three rfl]
  have hld := run_loadVar_row (P := Tryz.prog) wf w.heap.size 55 55 #[.string (s.extract 0 4), .string (s.extract 8 m), .int .i64 (-1)] (0, 0) _ hrow Tryz.underlying55 rfl infoK
  simp [asAddr, Result.andThen, hld]

/-- The document's one, whatever it is handed. -/
theorem r6one_yes (s : ByteArray) (big : Bool) (long : Int) (w : World) (hs : s.size ≤ 140737488351232) (hl1 : -9223372036854775808 ≤ long) (hl2 : long ≤ 9223372036854775807) (h : oneB s big long = true) :
    Calls Tryz.prog 46 #[.string s, .bool big, .int .i64 long] w fun e w' => e = .returned (.tuple #[chkV (oneC s big long), .int .i64 (oneN s big long : Int), .int .i64 0]) ∧ Below w.heap.size w w' := by
  unfold oneB at h
  obtain ⟨h8, h⟩ := Bool.and_eq_true_iff.1 h
  obtain ⟨hid, h⟩ := Bool.and_eq_true_iff.1 h
  have h8 := of_decide_eq_true h8
  have hle := of_decide_eq_true h
  have h0 := lenC_nonneg s big long h8
  obtain ⟨n, hn⟩ : ∃ n : Nat, lenC s big long = (n : Int) := ⟨(lenC s big long).toNat, by omega⟩
  rw [hn] at hle
  have hN : (lenC s big long).toNat = n := by omega
  have hle : 8 + n ≤ s.size := by omega
  have e1 : chkV (oneC s big long) = .agg #[.string (s.extract 0 4), .string (s.extract 8 (8 + n)), .int .i64 (padC s n)] := by
    show Value.agg #[.string (s.extract 0 4), .string (s.extract 8 (8 + (lenC s big long).toNat)), .int .i64 (padC s (lenC s big long).toNat)] = _
    rw [hN]
  have e2 : oneN s big long = 8 + n + (if n % 2 = 1 ∧ 8 + n < s.size then 1 else 0) := by
    unfold oneN
    rw [hN]
  rw [e1, e2]
  unfold padC
  unfold lenC at hn
  by_cases hg : 0 ≤ long
  · rw [if_pos hg] at hn
    by_cases hodd : n % 2 = 1
    · by_cases hlt : 8 + n < s.size
      · rw [if_pos hodd, if_pos hlt, if_pos ⟨hodd, hlt⟩]
        exact r6one_pad_given s big long w h8 hs hid hl1 hl2 hg n hn hle hodd hlt
      · rw [if_pos hodd, if_neg hlt, if_neg (fun q => hlt q.2)]
        exact r6one_end_given s big long w h8 hs hid hl1 hl2 hg n hn hle hodd hlt
    · rw [if_neg hodd, if_neg (fun q => hodd q.1)]
      exact r6one_even_given s big long w h8 hs hid hl1 hl2 hg n hn hle (by omega)
  · rw [if_neg hg] at hn
    by_cases hodd : n % 2 = 1
    · by_cases hlt : 8 + n < s.size
      · rw [if_pos hodd, if_pos hlt, if_pos ⟨hodd, hlt⟩]
        exact r6one_pad_read s big long w h8 hs hid hl1 hl2 hg n hn hle hodd hlt
      · rw [if_pos hodd, if_neg hlt, if_neg (fun q => hlt q.2)]
        exact r6one_end_read s big long w h8 hs hid hl1 hl2 hg n hn hle hodd hlt
    · rw [if_neg hodd, if_neg (fun q => hodd q.1)]
      exact r6one_even_read s big long w h8 hs hid hl1 hl2 hg n hn hle (by omega)
theorem r6one_no (s : ByteArray) (big : Bool) (long : Int) (w : World) (hs : s.size ≤ 140737488351232) (hl1 : -9223372036854775808 ≤ long) (hl2 : long ≤ 9223372036854775807) (h : oneB s big long = false) :
    Calls Tryz.prog 46 #[.string s, .bool big, .int .i64 long] w fun e w' => e = .returned (.tuple #[.agg zeroK, .int .i64 0, .int .i64 2]) ∧ Below w.heap.size w w' := by
  by_cases h8 : 8 ≤ s.size
  · cases hid : idB (s.extract 0 4)
    · exact r6one_noid s big long w h8 (by omega) hid
    · have hle : ¬ lenC s big long ≤ (s.size : Int) - 8 := fun q => by
        unfold oneB at h
        rw [hid, decide_eq_true h8, decide_eq_true q] at h
        cases h
      unfold lenC at hle
      by_cases hg : 0 ≤ long
      · rw [if_pos hg] at hle
        exact r6one_far_given s big long w h8 hs hid hl1 hl2 hg hle
      · rw [if_neg hg] at hle
        exact r6one_far_read s big long w h8 hs hid hl1 hl2 hg hle
  · exact r6one_short s big long w (by omega)

end Go.Proofs.YtaepgjheknkojaaGreat
