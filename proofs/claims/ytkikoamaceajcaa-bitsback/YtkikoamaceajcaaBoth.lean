/- Own text: the walk of the law's 'both': a deed with the program's writer and with the document's. -/
import Derived.Test.YtkikoamaceajcaaWrites
import Derived.BigRegion
import Derived.Deep.RegionHeld3
namespace Go.Proofs.Ytkikoamaceajcaa
open Go.RowKit
set_option linter.unusedSimpArgs false
set_option linter.unusedVariables false

/-- A deed's error, and the bits that it adds. -/
def dE (K W N U : Int) : Int := if K = 0 then putE U W else if K = 1 then sigE N W else if K = 2 then unrE N else if K = 3 then rcwE N W else 0
def dB (B : List Nat) (K W N U : Int) : List Nat := if K = 0 then putB U W else if K = 1 then sigB N W else if K = 2 then unrB N else if K = 3 then rcwB N W else aliB B

set_option maxRecDepth 20000 in
set_option maxHeartbeats 1600000 in
theorem both_put (W N U : Int) (n1 : -9223372036854775808 ≤ N) (n2 : N ≤ 9223372036854775807) (u1 : 0 ≤ U) (u2 : U ≤ 18446744073709551615) (N0 : Nat) (w0 w : World) (p x : Nat) (ao bo : Option Addr) (B : List Nat) (h01 : Bits01 B) (hB : B.length ≤ 700000000000) (h : Pair N0 w0 w p x ao bo B B) :
    Calls Try.prog 10 #[.pointer (some ⟨p, 0, none⟩), .pointer (some ⟨x, 0, none⟩), .agg #[.int .i64 0, .int .i64 W, .int .i64 N, .int .u64 U]] w fun e w' =>
      e = .returned (.tuple #[.int .i64 (putE U W), .int .i64 (putE U W)]) ∧ ∃ ao' bo', Pair N0 w0 w' p x ao' bo' (B ++ putB U W) (B ++ putB U W) := by
  obtain ⟨c, hc⟩ : ∃ c, c = w.heap.size := ⟨_, rfl⟩
  obtain ⟨w1, hw1⟩ : ∃ w1, w1 = w.alloc (.cells #[.int .i64 0, .int .i64 W, .int .i64 N, .int .u64 U] 32) := ⟨_, rfl⟩
  have hP1 : Pair N0 w0 w1.drew p x ao bo B B := h.later (by rw [hw1]; exact ((Below.refl _ _).alloc (Nat.le_refl _) _).drew)
  have hcp : c ≠ p := by have := h.wr.lt; omega
  have hca : blockOf ao ≠ some c := fun e => by have := h.wr.blocks c e; omega
  have hcx : c ≠ x := by have := h.xw.lt; omega
  have hco : blockOf bo ≠ some c := fun e => by have := h.xw.blocks c e; omega
  have hcb : w1.heap[c]? = some (.cells #[.int .i64 0, .int .i64 W, .int .i64 N, .int .u64 U] 32 (0, 0)) := by rw [hw1, hc]; exact heap_alloc_new _ _
  have hcl : c < w1.drew.heap.size := lt_of_block hcb
  have d1 : w1.cell? ⟨c, 1, none⟩ = some (.int .i64 W) := by simp [World.cell?, hcb]
  have d2 : w1.cell? ⟨c, 2, none⟩ = some (.int .i64 N) := by simp [World.cell?, hcb]
  have d3 : w1.cell? ⟨c, 3, none⟩ = some (.int .u64 U) := by simp [World.cell?, hcb]
  go_enter Try.func10, Try.ntmps10
  go_wp2
  rw [← hw1, ← hc]
  clear hw1 hc h
  go_region_held3 (fun w' => w'.cell? ⟨c, 1, none⟩ = some (.int .i64 W) ∧ w'.cell? ⟨c, 2, none⟩ = some (.int .i64 N) ∧ w'.cell? ⟨c, 3, none⟩ = some (.int .u64 U)) (first | exact ⟨d1, d2, d3⟩ | exact ⟨by assumption, by assumption, by assumption⟩)
    (first
      | (go_at_call 29; refine (wput_all _ ao B p U W u1 u2 h01 hB hP1.wr).mono ?_; rintro e w2 ⟨rfl, ao2, g1, g2, g3⟩; have hP2 := hP1.left g1 g2 g3; have hb2 : w2.heap[c]? = some (.cells #[.int .i64 0, .int .i64 W, .int .i64 N, .int .u64 U] 32 (0, 0)) := (hP1.box1 g2 hcl hcp hca).trans hcb; have hcl2 : c < w2.heap.size := lt_of_block hb2; have f1 : w2.cell? ⟨c, 1, none⟩ = some (.int .i64 W) := (by simp [World.cell?, hb2]); have f2 : w2.cell? ⟨c, 2, none⟩ = some (.int .i64 N) := (by simp [World.cell?, hb2]); have f3 : w2.cell? ⟨c, 3, none⟩ = some (.int .u64 U) := (by simp [World.cell?, hb2]))
      | (go_at_call 35; refine (xput_all _ bo B x U W u1 u2 hB (Pair.xw (by assumption))).mono ?_; rintro e w3 ⟨rfl, bo3, k1, k2, k3⟩; have hP3 := Pair.right (by assumption) k1 k2 k3; have hb3 : w3.heap[c]? = some (.cells #[.int .i64 0, .int .i64 W, .int .i64 N, .int .u64 U] 32 (0, 0)) := (Stays.block k2 c (by assumption) (fun hf => by rcases hf with hf | hf; exact hcx hf; exact hco hf)).trans (by assumption); have f1 : w3.cell? ⟨c, 1, none⟩ = some (.int .i64 W) := (by simp [World.cell?, hb3]); have f2 : w3.cell? ⟨c, 2, none⟩ = some (.int .i64 N) := (by simp [World.cell?, hb3]); have f3 : w3.cell? ⟨c, 3, none⟩ = some (.int .u64 U) := (by simp [World.cell?, hb3])))
  go_wp2
  go_ret2
  exact ⟨rfl, _, _, by assumption⟩

set_option maxRecDepth 20000 in
set_option maxHeartbeats 1600000 in
theorem both_sig (W N U : Int) (n1 : -9223372036854775808 ≤ N) (n2 : N ≤ 9223372036854775807) (u1 : 0 ≤ U) (u2 : U ≤ 18446744073709551615) (N0 : Nat) (w0 w : World) (p x : Nat) (ao bo : Option Addr) (B : List Nat) (h01 : Bits01 B) (hB : B.length ≤ 700000000000) (h : Pair N0 w0 w p x ao bo B B) :
    Calls Try.prog 10 #[.pointer (some ⟨p, 0, none⟩), .pointer (some ⟨x, 0, none⟩), .agg #[.int .i64 1, .int .i64 W, .int .i64 N, .int .u64 U]] w fun e w' =>
      e = .returned (.tuple #[.int .i64 (sigE N W), .int .i64 (sigE N W)]) ∧ ∃ ao' bo', Pair N0 w0 w' p x ao' bo' (B ++ sigB N W) (B ++ sigB N W) := by
  obtain ⟨c, hc⟩ : ∃ c, c = w.heap.size := ⟨_, rfl⟩
  obtain ⟨w1, hw1⟩ : ∃ w1, w1 = w.alloc (.cells #[.int .i64 1, .int .i64 W, .int .i64 N, .int .u64 U] 32) := ⟨_, rfl⟩
  have hP1 : Pair N0 w0 w1.drew p x ao bo B B := h.later (by rw [hw1]; exact ((Below.refl _ _).alloc (Nat.le_refl _) _).drew)
  have hcp : c ≠ p := by have := h.wr.lt; omega
  have hca : blockOf ao ≠ some c := fun e => by have := h.wr.blocks c e; omega
  have hcx : c ≠ x := by have := h.xw.lt; omega
  have hco : blockOf bo ≠ some c := fun e => by have := h.xw.blocks c e; omega
  have hcb : w1.heap[c]? = some (.cells #[.int .i64 1, .int .i64 W, .int .i64 N, .int .u64 U] 32 (0, 0)) := by rw [hw1, hc]; exact heap_alloc_new _ _
  have hcl : c < w1.drew.heap.size := lt_of_block hcb
  have d1 : w1.cell? ⟨c, 1, none⟩ = some (.int .i64 W) := by simp [World.cell?, hcb]
  have d2 : w1.cell? ⟨c, 2, none⟩ = some (.int .i64 N) := by simp [World.cell?, hcb]
  have d3 : w1.cell? ⟨c, 3, none⟩ = some (.int .u64 U) := by simp [World.cell?, hcb]
  go_enter Try.func10, Try.ntmps10
  go_wp2
  rw [← hw1, ← hc]
  clear hw1 hc h
  go_region_held3 (fun w' => w'.cell? ⟨c, 1, none⟩ = some (.int .i64 W) ∧ w'.cell? ⟨c, 2, none⟩ = some (.int .i64 N) ∧ w'.cell? ⟨c, 3, none⟩ = some (.int .u64 U)) (first | exact ⟨d1, d2, d3⟩ | exact ⟨by assumption, by assumption, by assumption⟩)
    (first
      | (go_at_call 30; refine (wsig_all _ ao B p N W h01 hB hP1.wr).mono ?_; rintro e w2 ⟨rfl, ao2, g1, g2, g3⟩; have hP2 := hP1.left g1 g2 g3; have hb2 : w2.heap[c]? = some (.cells #[.int .i64 1, .int .i64 W, .int .i64 N, .int .u64 U] 32 (0, 0)) := (hP1.box1 g2 hcl hcp hca).trans hcb; have hcl2 : c < w2.heap.size := lt_of_block hb2; have f1 : w2.cell? ⟨c, 1, none⟩ = some (.int .i64 W) := (by simp [World.cell?, hb2]); have f2 : w2.cell? ⟨c, 2, none⟩ = some (.int .i64 N) := (by simp [World.cell?, hb2]); have f3 : w2.cell? ⟨c, 3, none⟩ = some (.int .u64 U) := (by simp [World.cell?, hb2]))
      | (go_at_call 36; refine (xsig_all _ bo B x N W n1 n2 hB (Pair.xw (by assumption))).mono ?_; rintro e w3 ⟨rfl, bo3, k1, k2, k3⟩; have hP3 := Pair.right (by assumption) k1 k2 k3; have hb3 : w3.heap[c]? = some (.cells #[.int .i64 1, .int .i64 W, .int .i64 N, .int .u64 U] 32 (0, 0)) := (Stays.block k2 c (by assumption) (fun hf => by rcases hf with hf | hf; exact hcx hf; exact hco hf)).trans (by assumption); have f1 : w3.cell? ⟨c, 1, none⟩ = some (.int .i64 W) := (by simp [World.cell?, hb3]); have f2 : w3.cell? ⟨c, 2, none⟩ = some (.int .i64 N) := (by simp [World.cell?, hb3]); have f3 : w3.cell? ⟨c, 3, none⟩ = some (.int .u64 U) := (by simp [World.cell?, hb3])))
  go_wp2
  go_ret2
  exact ⟨rfl, _, _, by assumption⟩

set_option maxRecDepth 20000 in
set_option maxHeartbeats 1600000 in
theorem both_unr (W N U : Int) (n1 : -9223372036854775808 ≤ N) (n2 : N ≤ 9223372036854775807) (u1 : 0 ≤ U) (u2 : U ≤ 18446744073709551615) (N0 : Nat) (w0 w : World) (p x : Nat) (ao bo : Option Addr) (B : List Nat) (h01 : Bits01 B) (hB : B.length ≤ 700000000000) (h : Pair N0 w0 w p x ao bo B B) :
    Calls Try.prog 10 #[.pointer (some ⟨p, 0, none⟩), .pointer (some ⟨x, 0, none⟩), .agg #[.int .i64 2, .int .i64 W, .int .i64 N, .int .u64 U]] w fun e w' =>
      e = .returned (.tuple #[.int .i64 (unrE N), .int .i64 (unrE N)]) ∧ ∃ ao' bo', Pair N0 w0 w' p x ao' bo' (B ++ unrB N) (B ++ unrB N) := by
  obtain ⟨c, hc⟩ : ∃ c, c = w.heap.size := ⟨_, rfl⟩
  obtain ⟨w1, hw1⟩ : ∃ w1, w1 = w.alloc (.cells #[.int .i64 2, .int .i64 W, .int .i64 N, .int .u64 U] 32) := ⟨_, rfl⟩
  have hP1 : Pair N0 w0 w1.drew p x ao bo B B := h.later (by rw [hw1]; exact ((Below.refl _ _).alloc (Nat.le_refl _) _).drew)
  have hcp : c ≠ p := by have := h.wr.lt; omega
  have hca : blockOf ao ≠ some c := fun e => by have := h.wr.blocks c e; omega
  have hcx : c ≠ x := by have := h.xw.lt; omega
  have hco : blockOf bo ≠ some c := fun e => by have := h.xw.blocks c e; omega
  have hcb : w1.heap[c]? = some (.cells #[.int .i64 2, .int .i64 W, .int .i64 N, .int .u64 U] 32 (0, 0)) := by rw [hw1, hc]; exact heap_alloc_new _ _
  have hcl : c < w1.drew.heap.size := lt_of_block hcb
  have d1 : w1.cell? ⟨c, 1, none⟩ = some (.int .i64 W) := by simp [World.cell?, hcb]
  have d2 : w1.cell? ⟨c, 2, none⟩ = some (.int .i64 N) := by simp [World.cell?, hcb]
  have d3 : w1.cell? ⟨c, 3, none⟩ = some (.int .u64 U) := by simp [World.cell?, hcb]
  go_enter Try.func10, Try.ntmps10
  go_wp2
  rw [← hw1, ← hc]
  clear hw1 hc h
  go_region_held3 (fun w' => w'.cell? ⟨c, 1, none⟩ = some (.int .i64 W) ∧ w'.cell? ⟨c, 2, none⟩ = some (.int .i64 N) ∧ w'.cell? ⟨c, 3, none⟩ = some (.int .u64 U)) (first | exact ⟨d1, d2, d3⟩ | exact ⟨by assumption, by assumption, by assumption⟩)
    (first
      | (go_at_call 31; refine (wunr_all _ ao B p N h01 hB hP1.wr).mono ?_; rintro e w2 ⟨rfl, ao2, g1, g2, g3⟩; have hP2 := hP1.left g1 g2 g3; have hb2 : w2.heap[c]? = some (.cells #[.int .i64 2, .int .i64 W, .int .i64 N, .int .u64 U] 32 (0, 0)) := (hP1.box1 g2 hcl hcp hca).trans hcb; have hcl2 : c < w2.heap.size := lt_of_block hb2; have f1 : w2.cell? ⟨c, 1, none⟩ = some (.int .i64 W) := (by simp [World.cell?, hb2]); have f2 : w2.cell? ⟨c, 2, none⟩ = some (.int .i64 N) := (by simp [World.cell?, hb2]); have f3 : w2.cell? ⟨c, 3, none⟩ = some (.int .u64 U) := (by simp [World.cell?, hb2]))
      | (go_at_call 37; refine (xunr_all _ bo B x N hB (Pair.xw (by assumption))).mono ?_; rintro e w3 ⟨rfl, bo3, k1, k2, k3⟩; have hP3 := Pair.right (by assumption) k1 k2 k3; have hb3 : w3.heap[c]? = some (.cells #[.int .i64 2, .int .i64 W, .int .i64 N, .int .u64 U] 32 (0, 0)) := (Stays.block k2 c (by assumption) (fun hf => by rcases hf with hf | hf; exact hcx hf; exact hco hf)).trans (by assumption); have f1 : w3.cell? ⟨c, 1, none⟩ = some (.int .i64 W) := (by simp [World.cell?, hb3]); have f2 : w3.cell? ⟨c, 2, none⟩ = some (.int .i64 N) := (by simp [World.cell?, hb3]); have f3 : w3.cell? ⟨c, 3, none⟩ = some (.int .u64 U) := (by simp [World.cell?, hb3])))
  go_wp2
  go_ret2
  exact ⟨rfl, _, _, by assumption⟩

set_option maxRecDepth 20000 in
set_option maxHeartbeats 1600000 in
theorem both_ric (W N U : Int) (n1 : -9223372036854775808 ≤ N) (n2 : N ≤ 9223372036854775807) (u1 : 0 ≤ U) (u2 : U ≤ 18446744073709551615) (N0 : Nat) (w0 w : World) (p x : Nat) (ao bo : Option Addr) (B : List Nat) (h01 : Bits01 B) (hB : B.length ≤ 700000000000) (h : Pair N0 w0 w p x ao bo B B) :
    Calls Try.prog 10 #[.pointer (some ⟨p, 0, none⟩), .pointer (some ⟨x, 0, none⟩), .agg #[.int .i64 3, .int .i64 W, .int .i64 N, .int .u64 U]] w fun e w' =>
      e = .returned (.tuple #[.int .i64 (rcwE N W), .int .i64 (rcwE N W)]) ∧ ∃ ao' bo', Pair N0 w0 w' p x ao' bo' (B ++ rcwB N W) (B ++ rcwB N W) := by
  obtain ⟨c, hc⟩ : ∃ c, c = w.heap.size := ⟨_, rfl⟩
  obtain ⟨w1, hw1⟩ : ∃ w1, w1 = w.alloc (.cells #[.int .i64 3, .int .i64 W, .int .i64 N, .int .u64 U] 32) := ⟨_, rfl⟩
  have hP1 : Pair N0 w0 w1.drew p x ao bo B B := h.later (by rw [hw1]; exact ((Below.refl _ _).alloc (Nat.le_refl _) _).drew)
  have hcp : c ≠ p := by have := h.wr.lt; omega
  have hca : blockOf ao ≠ some c := fun e => by have := h.wr.blocks c e; omega
  have hcx : c ≠ x := by have := h.xw.lt; omega
  have hco : blockOf bo ≠ some c := fun e => by have := h.xw.blocks c e; omega
  have hcb : w1.heap[c]? = some (.cells #[.int .i64 3, .int .i64 W, .int .i64 N, .int .u64 U] 32 (0, 0)) := by rw [hw1, hc]; exact heap_alloc_new _ _
  have hcl : c < w1.drew.heap.size := lt_of_block hcb
  have d1 : w1.cell? ⟨c, 1, none⟩ = some (.int .i64 W) := by simp [World.cell?, hcb]
  have d2 : w1.cell? ⟨c, 2, none⟩ = some (.int .i64 N) := by simp [World.cell?, hcb]
  have d3 : w1.cell? ⟨c, 3, none⟩ = some (.int .u64 U) := by simp [World.cell?, hcb]
  go_enter Try.func10, Try.ntmps10
  go_wp2
  rw [← hw1, ← hc]
  clear hw1 hc h
  go_region_held3 (fun w' => w'.cell? ⟨c, 1, none⟩ = some (.int .i64 W) ∧ w'.cell? ⟨c, 2, none⟩ = some (.int .i64 N) ∧ w'.cell? ⟨c, 3, none⟩ = some (.int .u64 U)) (first | exact ⟨d1, d2, d3⟩ | exact ⟨by assumption, by assumption, by assumption⟩)
    (first
      | (go_at_call 32; refine (wric_all _ ao B p N W n1 n2 h01 hB hP1.wr).mono ?_; rintro e w2 ⟨rfl, ao2, g1, g2, g3⟩; have hP2 := hP1.left g1 g2 g3; have hb2 : w2.heap[c]? = some (.cells #[.int .i64 3, .int .i64 W, .int .i64 N, .int .u64 U] 32 (0, 0)) := (hP1.box1 g2 hcl hcp hca).trans hcb; have hcl2 : c < w2.heap.size := lt_of_block hb2; have f1 : w2.cell? ⟨c, 1, none⟩ = some (.int .i64 W) := (by simp [World.cell?, hb2]); have f2 : w2.cell? ⟨c, 2, none⟩ = some (.int .i64 N) := (by simp [World.cell?, hb2]); have f3 : w2.cell? ⟨c, 3, none⟩ = some (.int .u64 U) := (by simp [World.cell?, hb2]))
      | (go_at_call 38; refine (xric_all _ bo B x N W n1 n2 hB (Pair.xw (by assumption))).mono ?_; rintro e w3 ⟨rfl, bo3, k1, k2, k3⟩; have hP3 := Pair.right (by assumption) k1 k2 k3; have hb3 : w3.heap[c]? = some (.cells #[.int .i64 3, .int .i64 W, .int .i64 N, .int .u64 U] 32 (0, 0)) := (Stays.block k2 c (by assumption) (fun hf => by rcases hf with hf | hf; exact hcx hf; exact hco hf)).trans (by assumption); have f1 : w3.cell? ⟨c, 1, none⟩ = some (.int .i64 W) := (by simp [World.cell?, hb3]); have f2 : w3.cell? ⟨c, 2, none⟩ = some (.int .i64 N) := (by simp [World.cell?, hb3]); have f3 : w3.cell? ⟨c, 3, none⟩ = some (.int .u64 U) := (by simp [World.cell?, hb3])))
  go_wp2
  go_ret2
  exact ⟨rfl, _, _, by assumption⟩

set_option maxRecDepth 20000 in
set_option maxHeartbeats 1600000 in
theorem both_ali (K : Int) (k0 : K ≠ 0) (k1 : K ≠ 1) (k2 : K ≠ 2) (k3 : K ≠ 3) (W N U : Int) (n1 : -9223372036854775808 ≤ N) (n2 : N ≤ 9223372036854775807) (u1 : 0 ≤ U) (u2 : U ≤ 18446744073709551615) (N0 : Nat) (w0 w : World) (p x : Nat) (ao bo : Option Addr) (B : List Nat) (h01 : Bits01 B) (hB : B.length ≤ 700000000000) (h : Pair N0 w0 w p x ao bo B B) :
    Calls Try.prog 10 #[.pointer (some ⟨p, 0, none⟩), .pointer (some ⟨x, 0, none⟩), .agg #[.int .i64 K, .int .i64 W, .int .i64 N, .int .u64 U]] w fun e w' =>
      e = .returned (.tuple #[.int .i64 0, .int .i64 0]) ∧ ∃ ao' bo', Pair N0 w0 w' p x ao' bo' (B ++ aliB B) (B ++ aliB B) := by
  have k0' : (K == 0) = false := by simpa using k0
  have k1' : (K == 1) = false := by simpa using k1
  have k2' : (K == 2) = false := by simpa using k2
  have k3' : (K == 3) = false := by simpa using k3
  clear k0 k1 k2 k3
  have hP1 : Pair N0 w0 (w.alloc (.cells #[.int .i64 K, .int .i64 W, .int .i64 N, .int .u64 U] 32)) p x ao bo B B := h.later ((Below.refl _ _).alloc (Nat.le_refl _) _)
  go_enter Try.func10, Try.ntmps10
  go_wp2_with fail
  refine (align_spec p _ ao B (by omega) hP1.wr).mono ?_
  rintro e w2 ⟨rfl, g1, g2⟩
  have hP2 := hP1.left g1 g2 (Moved.refl _ _)
  clear g1 g2 hP1
  go_wp2_with fail
  refine (refalignw_spec x _ bo B (by omega) hP2.xw).mono ?_
  rintro e w3 ⟨rfl, bo3, g1, g2, g3⟩
  have hP3 := hP2.right g1 g2 g3
  clear g1 g2 g3 hP2
  go_wp2
  go_ret2
  exact ⟨rfl, _, _, hP3⟩

theorem both_all (K : Int) (W N U : Int) (n1 : -9223372036854775808 ≤ N) (n2 : N ≤ 9223372036854775807) (u1 : 0 ≤ U) (u2 : U ≤ 18446744073709551615) (N0 : Nat) (w0 w : World) (p x : Nat) (ao bo : Option Addr) (B : List Nat) (h01 : Bits01 B) (hB : B.length ≤ 700000000000) (h : Pair N0 w0 w p x ao bo B B) :
    Calls Try.prog 10 #[.pointer (some ⟨p, 0, none⟩), .pointer (some ⟨x, 0, none⟩), .agg #[.int .i64 K, .int .i64 W, .int .i64 N, .int .u64 U]] w fun e w' =>
      e = .returned (.tuple #[.int .i64 (dE K W N U), .int .i64 (dE K W N U)]) ∧ ∃ ao' bo', Pair N0 w0 w' p x ao' bo' (B ++ dB B K W N U) (B ++ dB B K W N U) := by
  unfold dE dB
  by_cases k0 : K = 0
  · subst k0; exact both_put W N U n1 n2 u1 u2 N0 w0 w p x ao bo B h01 hB h
  · rw [if_neg k0, if_neg k0]
    by_cases k1 : K = 1
    · subst k1; exact both_sig W N U n1 n2 u1 u2 N0 w0 w p x ao bo B h01 hB h
    · rw [if_neg k1, if_neg k1]
      by_cases k2 : K = 2
      · subst k2; exact both_unr W N U n1 n2 u1 u2 N0 w0 w p x ao bo B h01 hB h
      · rw [if_neg k2, if_neg k2]
        by_cases k3 : K = 3
        · subst k3; exact both_ric W N U n1 n2 u1 u2 N0 w0 w p x ao bo B h01 hB h
        · rw [if_neg k3, if_neg k3]
          exact both_ali K k0 k1 k2 k3 W N U n1 n2 u1 u2 N0 w0 w p x ao bo B h01 hB h

theorem dB_01 (B : List Nat) (K W N U : Int) : Bits01 (dB B K W N U) := by
  unfold dB
  split; exact putB_01 _ _
  split; exact sigB_01 _ _
  split; exact unrB_01 _
  split; exact rcwB_01 _ _
  exact aliB_01 _

theorem dB_len (B : List Nat) (K W N U : Int) : (dB B K W N U).length ≤ 17000000 := by
  unfold dB
  split; exact putB_len _ _
  split; exact sigB_len _ _
  split; exact unrB_len _
  split; exact rcwB_len _ _
  exact aliB_len _
end Go.Proofs.Ytkikoamaceajcaa
