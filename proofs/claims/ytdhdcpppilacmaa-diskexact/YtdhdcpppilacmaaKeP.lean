import Derived.Test.YtdhdcpppilacmaaFx
import Derived.Test.YtdhdcpppilacmaaIn
set_option linter.unusedVariables false
set_option linter.unusedSimpArgs false
namespace Go.Proofs.Ytdhdcpppilacmaa
open Go.RowKit
namespace K
open M
variable {B b s cap : Nat} {room : Int} {l : List UInt8} {ao : Option Addr} {w w' : World}
def Bx3 (bx : Nat) (r : Int) (f : Bool) (T : ByteArray) (w : World) : Prop := w.heap[bx]? = some (.cells #[.int .i64 r, .bool f, .string T] 33 (0, 0))
theorem Bx3.c0 {bx : Nat} {r : Int} {f : Bool} {T : ByteArray} (q : Bx3 bx r f T w) : w.cell? ⟨bx, 0, none⟩ = some (.int .i64 r) := by rw [Lib.cell_of_heap q]; rfl
theorem Bx3.c2 {bx : Nat} {r : Int} {f : Bool} {T : ByteArray} (q : Bx3 bx r f T w) : w.cell? ⟨bx, 2, none⟩ = some (.string T) := by rw [Lib.cell_of_heap q]; rfl
theorem Bx3.below {bx : Nat} {r : Int} {f : Bool} {T : ByteArray} (q : Bx3 bx r f T w) (b : Below w.heap.size w w') : Bx3 bx r f T w' := (b.block bx (lt_of_heap q)).trans q
theorem Bx3.dk {bx : Nat} {r : Int} {f : Bool} {T : ByteArray} (q : Bx3 bx r f T w) (d : Dk B b room l s ao cap w) : ¬ DB b ao bx := fun h => by
  rcases h with rfl | h
  · exact cells_ne q d.hp (by decide) rfl
  · obtain ⟨cs, e⟩ := (own_kind d.row h).2
    exact cells_ne q e (by decide) rfl
theorem Bx3.kept {bx : Nat} {r : Int} {f : Bool} {T : ByteArray} (q : Bx3 bx r f T w) {S : Nat → Prop} (t : Turn S w w') (hn : ¬ S bx) : Bx3 bx r f T w' := (t.block bx (lt_of_heap q) hn).trans q
theorem beg_take (l : List UInt8) {a c : Nat} (h : a ≤ c) (hc : c ≤ l.length) : l.take a = (l.take c).take (l.take a).length := by
  rw [List.length_take, List.take_take]
  congr 1
  omega
theorem size_take (l : List UInt8) {a : Nat} (h : a ≤ l.length) : (sb (l.take a)).size = a := by rw [sb_size, List.length_take]; omega
theorem kp_le (s n : Nat) (k : Int) : kp s n k ≤ n := by unfold kp; omega
theorem kp_ge {s n : Nat} (k : Int) (h : s ≤ n) : s ≤ kp s n k := by unfold kp; omega
theorem kp_up (s n : Nat) {k k' : Int} (h : k ≤ k') : kp s n k ≤ kp s n k' := by unfold kp; omega
/-- what the law has made: the disk, the box of the start -/
structure Kp (w : World) (b bx : Nat) (room : Int) (f : Bool) (T : ByteArray) (l : List UInt8) (s : Nat) (ao : Option Addr) (cap : Nat) (wx : World) : Prop where
  dk : Dk w.heap.size b room l s ao cap wx
  bx : Bx3 bx room f T wx
  bel : Below w.heap.size w wx
theorem Kp.below {w wx wy : World} {b bx : Nat} {f : Bool} {T : ByteArray} (q : Kp w b bx room f T l s ao cap wx) (h : Below wx.heap.size wx wy) : Kp w b bx room f T l s ao cap wy := ⟨q.dk.below h, q.bx.below h, q.bel.trans (h.mono q.bel.size)⟩
theorem Kp.turn {w wx wy : World} {b bx : Nat} {f : Bool} {T : ByteArray} (q : Kp w b bx room f T l s ao cap wx) {l' : List UInt8} {s' : Nat} {ao' : Option Addr} {cap' : Nat} (d : Dk w.heap.size b room l' s' ao' cap' wy) (t : Turn (DB b ao) wx wy) : Kp w b bx room f T l' s' ao' cap' wy :=
  ⟨d, q.bx.kept t (q.bx.dk q.dk), q.bel.trans (t.below (fun j hj => (q.dk.in hj).1) q.bel.size)⟩
/-- a box with a call -/
def Bo (ob : Nat) (x : O4) (w : World) : Prop := w.heap[ob]? = some (.cells #[.int .i64 x.k, .int .i64 x.d, .string (sb x.t), .int .i64 x.n] 37 (0, 0))
theorem Bo.c0 {ob : Nat} {x : O4} (q : Bo ob x w) : w.cell? ⟨ob, 0, none⟩ = some (.int .i64 x.k) := by rw [Lib.cell_of_heap q]; rfl
theorem Bo.c2 {ob : Nat} {x : O4} (q : Bo ob x w) : w.cell? ⟨ob, 2, none⟩ = some (.string (sb x.t)) := by rw [Lib.cell_of_heap q]; rfl
theorem Bo.c3 {ob : Nat} {x : O4} (q : Bo ob x w) : w.cell? ⟨ob, 3, none⟩ = some (.int .i64 x.n) := by rw [Lib.cell_of_heap q]; rfl
theorem Bo.below {ob : Nat} {x : O4} (q : Bo ob x w) (b : Below w.heap.size w w') : Bo ob x w' := (b.block ob (lt_of_heap q)).trans q
theorem Bo.kept {ob : Nat} {x : O4} (q : Bo ob x w) {S : Nat → Prop} (t : Turn S w w') (hn : ¬ S ob) : Bo ob x w' := (t.block ob (lt_of_heap q) hn).trans q
theorem Bo.dk {ob : Nat} {x : O4} (q : Bo ob x w) (d : Dk B b room l s ao cap w) : ¬ DB b ao ob := fun h => by
  rcases h with rfl | h
  · exact cells_ne q d.hp (by decide) rfl
  · obtain ⟨cs, e⟩ := (own_kind d.row h).2
    exact cells_ne q e (by decide) rfl
theorem Bo.new (x : O4) (w : World) : Bo w.heap.size x (w.alloc (.cells #[.int .i64 x.k, .int .i64 x.d, .string (sb x.t), .int .i64 x.n] 37)) := heap_alloc_new _ _
theorem O4.cells {w : World} {b off j : Nat} {x : O4} (hc : ∀ r, r < 4 → w.cell? ⟨b, off + j * 4 + r, none⟩ = x.arr[r]?) : w.cell? ⟨b, off + j * 4, none⟩ = some (.int .i64 x.k) ∧ w.cell? ⟨b, off + j * 4 + 1, none⟩ = some (.int .i64 x.d) ∧ w.cell? ⟨b, off + j * 4 + 2, none⟩ = some (.string (sb x.t)) ∧ w.cell? ⟨b, off + j * 4 + 3, none⟩ = some (.int .i64 x.n) := ⟨hc 0 (by omega), hc 1 (by omega), hc 2 (by omega), hc 3 (by omega)⟩

set_option maxRecDepth 100000 in
set_option maxHeartbeats 1000000 in
theorem keeps_range (room : Int) (f : Bool) (t : List UInt8) (S : Value) (w : World) (h : room < 0 ∨ 1048576 < room) : Calls Try.prog 4 #[.agg #[.int .i64 room, .bool f, .string (sb t)], S] w fun e w' => e = .returned (.bool true) ∧ Below w.heap.size w w' := by
  have HF := hide' (fixed_any (w.alloc (.cells #[.int .i64 room, .bool f, .string (sb t)] 33)))
  have HX : Hid (Bx3 w.heap.size room f (sb t) (w.alloc (.cells #[.int .i64 room, .bool f, .string (sb t)] 33))) := hide' (heap_alloc_new _ _)
  have HC : Hid (∀ w1, Calls Try.prog 16 #[.string (sb t), .int .i64 room] w1 fun e w' => (∃ c : Int, c ≠ 0 ∧ e = .returned (.tuple #[.pointer none, .int .i64 c])) ∧ Below w1.heap.size w1 w') := hide' (fun w1 => by
    exact (open_range _ w1 h).mono (fun e w2 ⟨a, q⟩ => ⟨⟨3, by decide, a⟩, by rw [q]; exact Below.refl _ _⟩))
  skip
  generalize sb t = T at *
  go_enter Try.func4, Try.ntmps4
  go_wp2_with fail
  refine HF.out.mono ?_
  rintro e w1 ⟨rfl, b1⟩
  have X1 := HX.out.below b1
  have HB1 := hide' (((Below.refl w.heap.size w).alloc (Nat.le_refl _) _).trans (b1.mono (by simp)))
  have HC1 := hide' (HC.out w1)
  have HX1 := hide' X1
  have c0 := X1.c0
  have c2 := X1.c2
  clear HF HX b1 X1 HC
  go_wp2_with fail
  refine HC1.out.mono ?_
  rintro e w2 ⟨⟨c, hc, rfl⟩, b2⟩
  have X2 := HX1.out.below b2
  have d0 := X2.c0
  have d2 := X2.c2
  have HB2 := hide' (HB1.out.trans (b2.mono HB1.out.size))
  clear HX1 X2 HB1 b2 HC1 c0 c2
  rcases h with h | h
  · go_wp2
    go_ret
    exact ⟨rfl, HB2.out⟩
  · have h' : ¬ (room < 0) := by omega
    go_wp2
    go_ret
    exact ⟨rfl, HB2.out⟩

set_option maxRecDepth 100000 in
set_option maxHeartbeats 1000000 in
theorem keeps_full (room : Int) (f : Bool) (t : List UInt8) (S : Value) (w : World) (h : 0 ≤ room ∧ room ≤ 1048576 ∧ room < (t.length : Int)) : Calls Try.prog 4 #[.agg #[.int .i64 room, .bool f, .string (sb t)], S] w fun e w' => e = .returned (.bool true) ∧ Below w.heap.size w w' := by
  have HF := hide' (fixed_any (w.alloc (.cells #[.int .i64 room, .bool f, .string (sb t)] 33)))
  have HX : Hid (Bx3 w.heap.size room f (sb t) (w.alloc (.cells #[.int .i64 room, .bool f, .string (sb t)] 33))) := hide' (heap_alloc_new _ _)
  have HC : Hid (∀ w1, Calls Try.prog 16 #[.string (sb t), .int .i64 room] w1 fun e w' => (∃ c : Int, c ≠ 0 ∧ e = .returned (.tuple #[.pointer none, .int .i64 c])) ∧ Below w1.heap.size w1 w') := hide' (fun w1 => by
    exact (open_full t w1 h.1 h.2.1 h.2.2).mono (fun e w2 ⟨a, q⟩ => ⟨⟨210, by decide, a⟩, q⟩))
  rw [← sb_size t] at h
  generalize sb t = T at *
  go_enter Try.func4, Try.ntmps4
  go_wp2_with fail
  refine HF.out.mono ?_
  rintro e w1 ⟨rfl, b1⟩
  have X1 := HX.out.below b1
  have HB1 := hide' (((Below.refl w.heap.size w).alloc (Nat.le_refl _) _).trans (b1.mono (by simp)))
  have HC1 := hide' (HC.out w1)
  have HX1 := hide' X1
  have c0 := X1.c0
  have c2 := X1.c2
  clear HF HX b1 X1 HC
  go_wp2_with fail
  refine HC1.out.mono ?_
  rintro e w2 ⟨⟨c, hc, rfl⟩, b2⟩
  have X2 := HX1.out.below b2
  have d0 := X2.c0
  have d2 := X2.c2
  have HB2 := hide' (HB1.out.trans (b2.mono HB1.out.size))
  clear HX1 X2 HB1 b2 HC1 c0 c2
  obtain ⟨h1, h2, h3⟩ := h
  have h1' : ¬ (room < 0) := by omega
  have h2' : ¬ (1048576 < room) := by omega
  clear h1 h2
  go_wp2
  go_ret
  exact ⟨rfl, HB2.out⟩
set_option maxRecDepth 100000 in
set_option maxHeartbeats 1000000 in
theorem lives_range (room : Int) (f : Bool) (t : List UInt8) (S : Value) (w : World) (h : room < 0 ∨ 1048576 < room) : Calls Try.prog 5 #[.agg #[.int .i64 room, .bool f, .string (sb t)], S] w fun e w' => e = .returned (.bool true) ∧ Below w.heap.size w w' := by
  have HF := hide' (fixed_any (w.alloc (.cells #[.int .i64 room, .bool f, .string (sb t)] 33)))
  have HX : Hid (Bx3 w.heap.size room f (sb t) (w.alloc (.cells #[.int .i64 room, .bool f, .string (sb t)] 33))) := hide' (heap_alloc_new _ _)
  have HC : Hid (∀ w1, Calls Try.prog 16 #[.string (sb t), .int .i64 room] w1 fun e w' => (∃ c : Int, c ≠ 0 ∧ e = .returned (.tuple #[.pointer none, .int .i64 c])) ∧ Below w1.heap.size w1 w') := hide' (fun w1 => by
    exact (open_range _ w1 h).mono (fun e w2 ⟨a, q⟩ => ⟨⟨3, by decide, a⟩, by rw [q]; exact Below.refl _ _⟩))
  skip
  generalize sb t = T at *
  go_enter Try.func5, Try.ntmps5
  go_wp2_with fail
  refine HF.out.mono ?_
  rintro e w1 ⟨rfl, b1⟩
  have X1 := HX.out.below b1
  have HB1 := hide' (((Below.refl w.heap.size w).alloc (Nat.le_refl _) _).trans (b1.mono (by simp)))
  have HC1 := hide' (HC.out w1)
  have HX1 := hide' X1
  have c0 := X1.c0
  have c2 := X1.c2
  clear HF HX b1 X1 HC
  go_wp2_with fail
  refine HC1.out.mono ?_
  rintro e w2 ⟨⟨c, hc, rfl⟩, b2⟩
  have X2 := HX1.out.below b2
  have d0 := X2.c0
  have d2 := X2.c2
  have HB2 := hide' (HB1.out.trans (b2.mono HB1.out.size))
  clear HX1 X2 HB1 b2 HC1 c0 c2
  rcases h with h | h
  · go_wp2
    go_ret
    exact ⟨rfl, HB2.out⟩
  · have h' : ¬ (room < 0) := by omega
    go_wp2
    go_ret
    exact ⟨rfl, HB2.out⟩

set_option maxRecDepth 100000 in
set_option maxHeartbeats 1000000 in
theorem lives_full (room : Int) (f : Bool) (t : List UInt8) (S : Value) (w : World) (h : 0 ≤ room ∧ room ≤ 1048576 ∧ room < (t.length : Int)) : Calls Try.prog 5 #[.agg #[.int .i64 room, .bool f, .string (sb t)], S] w fun e w' => e = .returned (.bool true) ∧ Below w.heap.size w w' := by
  have HF := hide' (fixed_any (w.alloc (.cells #[.int .i64 room, .bool f, .string (sb t)] 33)))
  have HX : Hid (Bx3 w.heap.size room f (sb t) (w.alloc (.cells #[.int .i64 room, .bool f, .string (sb t)] 33))) := hide' (heap_alloc_new _ _)
  have HC : Hid (∀ w1, Calls Try.prog 16 #[.string (sb t), .int .i64 room] w1 fun e w' => (∃ c : Int, c ≠ 0 ∧ e = .returned (.tuple #[.pointer none, .int .i64 c])) ∧ Below w1.heap.size w1 w') := hide' (fun w1 => by
    exact (open_full t w1 h.1 h.2.1 h.2.2).mono (fun e w2 ⟨a, q⟩ => ⟨⟨210, by decide, a⟩, q⟩))
  rw [← sb_size t] at h
  generalize sb t = T at *
  go_enter Try.func5, Try.ntmps5
  go_wp2_with fail
  refine HF.out.mono ?_
  rintro e w1 ⟨rfl, b1⟩
  have X1 := HX.out.below b1
  have HB1 := hide' (((Below.refl w.heap.size w).alloc (Nat.le_refl _) _).trans (b1.mono (by simp)))
  have HC1 := hide' (HC.out w1)
  have HX1 := hide' X1
  have c0 := X1.c0
  have c2 := X1.c2
  clear HF HX b1 X1 HC
  go_wp2_with fail
  refine HC1.out.mono ?_
  rintro e w2 ⟨⟨c, hc, rfl⟩, b2⟩
  have X2 := HX1.out.below b2
  have d0 := X2.c0
  have d2 := X2.c2
  have HB2 := hide' (HB1.out.trans (b2.mono HB1.out.size))
  clear HX1 X2 HB1 b2 HC1 c0 c2
  obtain ⟨h1, h2, h3⟩ := h
  have h1' : ¬ (room < 0) := by omega
  have h2' : ¬ (1048576 < room) := by omega
  clear h1 h2
  go_wp2
  go_ret
  exact ⟨rfl, HB2.out⟩
end K
end Go.Proofs.Ytdhdcpppilacmaa
