import Derived.Test.YtkipcdjadmocaaaChg56
import Derived.Test.YtkipcdjadmocaaaChg57
import Derived.Test.YtkipcdjadmocaaaChg58
import Derived.Test.YtkipcdjadmocaaaAlgP
import Derived.Test.YtkipcdjadmocaaaMade
set_option linter.unusedVariables false
set_option linter.unusedSimpArgs false
namespace Go.Proofs.Ytkipcdjadmocaaa
open Go.RowKit
theorem Bs.ne2 {x g room y h r2 : Nat} {p q : Nat → Bool} {w : World} (a : Bs x g room p w) (b : Bs y h r2 q w) : y ≠ g := by
  intro e
  have h1 := b.hx
  rw [e, a.hg] at h1
  simp at h1
theorem four_none (k : Nat) : four (fun _ => false) k = none4 := by
  have e : ∀ n off, B.wdN (fun _ => false) n off = 0 := by
    intro n; induction n with
    | zero => intro off; rfl
    | succ n ih => intro off; simp [B.wdN, ih]
  unfold four none4 B.wd
  rw [e, e, e, e]
  rfl
theorem four_upto (p p' : Nat → Bool) (k : Nat) : four (B.upto p p' (k * 4)) k = four p k := by
  unfold four
  rw [B.upto_wd_ge _ _ _ _ (by omega), B.upto_wd_ge _ _ _ _ (by omega), B.upto_wd_ge _ _ _ _ (by omega), B.upto_wd_ge _ _ _ _ (by omega)]

theorem join_hop (p q : Nat → Bool) (j : Nat) : opJoin (B.wd p j) (B.wd q j) = B.wd (fun i => bOr (p i) (q i)) j := B.wd_or p q j
theorem join_lt (p q : Nat → Bool) (j : Nat) : opJoin (B.wd p j) (B.wd q j) < 18446744073709551616 := by rw [join_hop]; exact B.wd_lt _ _
set_option maxHeartbeats 1000000 in
set_option maxRecDepth 100000 in
theorem join_two (x g room y h r2 : Nat) (p q : Nat → Bool) (w : World) (hB : Bs x g room p w) (hO : Bs y h r2 q w) (hne : h ≠ g) :
    Calls Try.prog 31 #[.pointer (some ⟨x, 0, none⟩), .pointer (some ⟨y, 0, none⟩)] w fun e w' => e = .returned (.bool (B.chg p (B.laid bOr room p q) (nw room))) ∧ Bs x g room (B.laid bOr room p q) w' ∧ Turn (fun j => j = g) w w' := by
  have hyg := hB.ne2 hO
  have Hc := hide' (fun w hb ho => change_56 opJoin bOr (fun a b w ha hb => join1 a b w ha hb) x g room p q (join_hop p q) (join_lt p q) (some ⟨y, 0, none⟩) (fun w => Bs y h r2 q w) (fun k wx _ _ ho => quad_any y h r2 q k wx ho) (fun wx wy ho t => ho.kept t hyg hne) w hb ho)
  have HB := hide' hB
  have HO := hide' hO
  clear hB hO
  generalize B.laid bOr room p q = p' at *
  generalize B.chg p p' (nw room) = c at *
  go_enter Try.func31, Try.ntmps31
  go_wp2_with fail
  refine (Hc.out _ HB.out HO.out).mono ?_
  rintro e w1 ⟨rfl, hB1, hO1, t1⟩
  go_wp2
  go_ret
  exact ⟨rfl, hB1, t1⟩
set_option maxHeartbeats 1000000 in
set_option maxRecDepth 100000 in
theorem join_self (x g room : Nat) (p : Nat → Bool) (w : World) (hB : Bs x g room p w) :
    Calls Try.prog 31 #[.pointer (some ⟨x, 0, none⟩), .pointer (some ⟨x, 0, none⟩)] w fun e w' => e = .returned (.bool (B.chg p (B.laid bOr room p p) (nw room))) ∧ Bs x g room (B.laid bOr room p p) w' ∧ Turn (fun j => j = g) w w' := by
  have Hc := hide' (fun w hb ho => change_56 opJoin bOr (fun a b w ha hb => join1 a b w ha hb) x g room p p (join_hop p p) (join_lt p p) (some ⟨x, 0, none⟩) (fun _ => True) (fun k wx _ hb _ => by have := quad_any x g room _ k wx hb; rw [four_upto] at this; exact this) (fun wx wy _ _ => trivial) w hb ho)
  have HB := hide' hB
  clear hB
  generalize B.laid bOr room p p = p' at *
  generalize B.chg p p' (nw room) = c at *
  go_enter Try.func31, Try.ntmps31
  go_wp2_with fail
  refine (Hc.out _ HB.out trivial).mono ?_
  rintro e w1 ⟨rfl, hB1, hO1, t1⟩
  go_wp2
  go_ret
  exact ⟨rfl, hB1, t1⟩
set_option maxHeartbeats 1000000 in
set_option maxRecDepth 100000 in
theorem join_nil (x g room : Nat) (p : Nat → Bool) (w : World) (hB : Bs x g room p w) :
    Calls Try.prog 31 #[.pointer (some ⟨x, 0, none⟩), .pointer none] w fun e w' => e = .returned (.bool (B.chg p (B.laid bOr room p (fun _ => false)) (nw room))) ∧ Bs x g room (B.laid bOr room p (fun _ => false)) w' ∧ Turn (fun j => j = g) w w' := by
  have Hc := hide' (fun w hb ho => change_56 opJoin bOr (fun a b w ha hb => join1 a b w ha hb) x g room p (fun _ => false) (join_hop p _) (join_lt p _) none (fun _ => True) (fun k wx _ hb _ => by rw [four_none]; exact quad_nil _ wx) (fun wx wy _ _ => trivial) w hb ho)
  have HB := hide' hB
  clear hB
  generalize B.laid bOr room p (fun _ => false) = p' at *
  generalize B.chg p p' (nw room) = c at *
  go_enter Try.func31, Try.ntmps31
  go_wp2_with fail
  refine (Hc.out _ HB.out trivial).mono ?_
  rintro e w1 ⟨rfl, hB1, hO1, t1⟩
  go_wp2
  go_ret
  exact ⟨rfl, hB1, t1⟩

theorem meet_hop (p q : Nat → Bool) (j : Nat) : opMeet (B.wd p j) (B.wd q j) = B.wd (fun i => bAnd (p i) (q i)) j := B.wd_and p q j
theorem meet_lt (p q : Nat → Bool) (j : Nat) : opMeet (B.wd p j) (B.wd q j) < 18446744073709551616 := by rw [meet_hop]; exact B.wd_lt _ _
set_option maxHeartbeats 1000000 in
set_option maxRecDepth 100000 in
theorem meet_two (x g room y h r2 : Nat) (p q : Nat → Bool) (w : World) (hB : Bs x g room p w) (hO : Bs y h r2 q w) (hne : h ≠ g) :
    Calls Try.prog 32 #[.pointer (some ⟨x, 0, none⟩), .pointer (some ⟨y, 0, none⟩)] w fun e w' => e = .returned (.bool (B.chg p (B.laid bAnd room p q) (nw room))) ∧ Bs x g room (B.laid bAnd room p q) w' ∧ Turn (fun j => j = g) w w' := by
  have hyg := hB.ne2 hO
  have Hc := hide' (fun w hb ho => change_57 opMeet bAnd (fun a b w ha hb => meet1 a b w ha hb) x g room p q (meet_hop p q) (meet_lt p q) (some ⟨y, 0, none⟩) (fun w => Bs y h r2 q w) (fun k wx _ _ ho => quad_any y h r2 q k wx ho) (fun wx wy ho t => ho.kept t hyg hne) w hb ho)
  have HB := hide' hB
  have HO := hide' hO
  clear hB hO
  generalize B.laid bAnd room p q = p' at *
  generalize B.chg p p' (nw room) = c at *
  go_enter Try.func32, Try.ntmps32
  go_wp2_with fail
  refine (Hc.out _ HB.out HO.out).mono ?_
  rintro e w1 ⟨rfl, hB1, hO1, t1⟩
  go_wp2
  go_ret
  exact ⟨rfl, hB1, t1⟩
set_option maxHeartbeats 1000000 in
set_option maxRecDepth 100000 in
theorem meet_self (x g room : Nat) (p : Nat → Bool) (w : World) (hB : Bs x g room p w) :
    Calls Try.prog 32 #[.pointer (some ⟨x, 0, none⟩), .pointer (some ⟨x, 0, none⟩)] w fun e w' => e = .returned (.bool (B.chg p (B.laid bAnd room p p) (nw room))) ∧ Bs x g room (B.laid bAnd room p p) w' ∧ Turn (fun j => j = g) w w' := by
  have Hc := hide' (fun w hb ho => change_57 opMeet bAnd (fun a b w ha hb => meet1 a b w ha hb) x g room p p (meet_hop p p) (meet_lt p p) (some ⟨x, 0, none⟩) (fun _ => True) (fun k wx _ hb _ => by have := quad_any x g room _ k wx hb; rw [four_upto] at this; exact this) (fun wx wy _ _ => trivial) w hb ho)
  have HB := hide' hB
  clear hB
  generalize B.laid bAnd room p p = p' at *
  generalize B.chg p p' (nw room) = c at *
  go_enter Try.func32, Try.ntmps32
  go_wp2_with fail
  refine (Hc.out _ HB.out trivial).mono ?_
  rintro e w1 ⟨rfl, hB1, hO1, t1⟩
  go_wp2
  go_ret
  exact ⟨rfl, hB1, t1⟩
set_option maxHeartbeats 1000000 in
set_option maxRecDepth 100000 in
theorem meet_nil (x g room : Nat) (p : Nat → Bool) (w : World) (hB : Bs x g room p w) :
    Calls Try.prog 32 #[.pointer (some ⟨x, 0, none⟩), .pointer none] w fun e w' => e = .returned (.bool (B.chg p (B.laid bAnd room p (fun _ => false)) (nw room))) ∧ Bs x g room (B.laid bAnd room p (fun _ => false)) w' ∧ Turn (fun j => j = g) w w' := by
  have Hc := hide' (fun w hb ho => change_57 opMeet bAnd (fun a b w ha hb => meet1 a b w ha hb) x g room p (fun _ => false) (meet_hop p _) (meet_lt p _) none (fun _ => True) (fun k wx _ hb _ => by rw [four_none]; exact quad_nil _ wx) (fun wx wy _ _ => trivial) w hb ho)
  have HB := hide' hB
  clear hB
  generalize B.laid bAnd room p (fun _ => false) = p' at *
  generalize B.chg p p' (nw room) = c at *
  go_enter Try.func32, Try.ntmps32
  go_wp2_with fail
  refine (Hc.out _ HB.out trivial).mono ?_
  rintro e w1 ⟨rfl, hB1, hO1, t1⟩
  go_wp2
  go_ret
  exact ⟨rfl, hB1, t1⟩

theorem less_hop (p q : Nat → Bool) (j : Nat) : opLess (B.wd p j) (B.wd q j) = B.wd (fun i => bLess (p i) (q i)) j := B.wd_andNot p q j
theorem less_lt (p q : Nat → Bool) (j : Nat) : opLess (B.wd p j) (B.wd q j) < 18446744073709551616 := by rw [less_hop]; exact B.wd_lt _ _
set_option maxHeartbeats 1000000 in
set_option maxRecDepth 100000 in
theorem less_two (x g room y h r2 : Nat) (p q : Nat → Bool) (w : World) (hB : Bs x g room p w) (hO : Bs y h r2 q w) (hne : h ≠ g) :
    Calls Try.prog 33 #[.pointer (some ⟨x, 0, none⟩), .pointer (some ⟨y, 0, none⟩)] w fun e w' => e = .returned (.bool (B.chg p (B.laid bLess room p q) (nw room))) ∧ Bs x g room (B.laid bLess room p q) w' ∧ Turn (fun j => j = g) w w' := by
  have hyg := hB.ne2 hO
  have Hc := hide' (fun w hb ho => change_58 opLess bLess (fun a b w ha hb => less1 a b w ha hb) x g room p q (less_hop p q) (less_lt p q) (some ⟨y, 0, none⟩) (fun w => Bs y h r2 q w) (fun k wx _ _ ho => quad_any y h r2 q k wx ho) (fun wx wy ho t => ho.kept t hyg hne) w hb ho)
  have HB := hide' hB
  have HO := hide' hO
  clear hB hO
  generalize B.laid bLess room p q = p' at *
  generalize B.chg p p' (nw room) = c at *
  go_enter Try.func33, Try.ntmps33
  go_wp2_with fail
  refine (Hc.out _ HB.out HO.out).mono ?_
  rintro e w1 ⟨rfl, hB1, hO1, t1⟩
  go_wp2
  go_ret
  exact ⟨rfl, hB1, t1⟩
set_option maxHeartbeats 1000000 in
set_option maxRecDepth 100000 in
theorem less_self (x g room : Nat) (p : Nat → Bool) (w : World) (hB : Bs x g room p w) :
    Calls Try.prog 33 #[.pointer (some ⟨x, 0, none⟩), .pointer (some ⟨x, 0, none⟩)] w fun e w' => e = .returned (.bool (B.chg p (B.laid bLess room p p) (nw room))) ∧ Bs x g room (B.laid bLess room p p) w' ∧ Turn (fun j => j = g) w w' := by
  have Hc := hide' (fun w hb ho => change_58 opLess bLess (fun a b w ha hb => less1 a b w ha hb) x g room p p (less_hop p p) (less_lt p p) (some ⟨x, 0, none⟩) (fun _ => True) (fun k wx _ hb _ => by have := quad_any x g room _ k wx hb; rw [four_upto] at this; exact this) (fun wx wy _ _ => trivial) w hb ho)
  have HB := hide' hB
  clear hB
  generalize B.laid bLess room p p = p' at *
  generalize B.chg p p' (nw room) = c at *
  go_enter Try.func33, Try.ntmps33
  go_wp2_with fail
  refine (Hc.out _ HB.out trivial).mono ?_
  rintro e w1 ⟨rfl, hB1, hO1, t1⟩
  go_wp2
  go_ret
  exact ⟨rfl, hB1, t1⟩
set_option maxHeartbeats 1000000 in
set_option maxRecDepth 100000 in
theorem less_nil (x g room : Nat) (p : Nat → Bool) (w : World) (hB : Bs x g room p w) :
    Calls Try.prog 33 #[.pointer (some ⟨x, 0, none⟩), .pointer none] w fun e w' => e = .returned (.bool (B.chg p (B.laid bLess room p (fun _ => false)) (nw room))) ∧ Bs x g room (B.laid bLess room p (fun _ => false)) w' ∧ Turn (fun j => j = g) w w' := by
  have Hc := hide' (fun w hb ho => change_58 opLess bLess (fun a b w ha hb => less1 a b w ha hb) x g room p (fun _ => false) (less_hop p _) (less_lt p _) none (fun _ => True) (fun k wx _ hb _ => by rw [four_none]; exact quad_nil _ wx) (fun wx wy _ _ => trivial) w hb ho)
  have HB := hide' hB
  clear hB
  generalize B.laid bLess room p (fun _ => false) = p' at *
  generalize B.chg p p' (nw room) = c at *
  go_enter Try.func33, Try.ntmps33
  go_wp2_with fail
  refine (Hc.out _ HB.out trivial).mono ?_
  rintro e w1 ⟨rfl, hB1, hO1, t1⟩
  go_wp2
  go_ret
  exact ⟨rfl, hB1, t1⟩
end Go.Proofs.Ytkipcdjadmocaaa
