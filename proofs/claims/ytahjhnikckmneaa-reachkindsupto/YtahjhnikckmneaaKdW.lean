import Derived.Test.YtahjhnikckmneaaKds
set_option linter.unusedVariables false
set_option linter.unusedSimpArgs false
namespace Go.Proofs.Ytahjhnikckmneaa
open Go.RowKit Go.Maps
namespace N
theorem part0 (w : World) (x y : Value) : (part 9 #[x, y] 0).run Try.prog w = .ok x w := by kernel_rfl
theorem part1 (w : World) (x y : Value) : (part 9 #[x, y] 1).run Try.prog w = .ok y w := by kernel_rfl
theorem eqE (w : World) (a b c d : ByteArray) : (Op.equalIn 10000 58 (.agg #[.string a, .string b]) (.agg #[.string c, .string d])).run Try.prog w = .ok (a.toList == c.toList && b.toList == d.toList) w := by
  rw [show (10000 : Nat) = 9999 + 1 from rfl]
  unfold Op.equalIn
  have hr : List.range' 0 2 = [0, 1] := rfl
  have e1 := fun (w : World) (a b : ByteArray) => run_equalIn_string (P := Try.prog) (w := w) 9998 9 a b Try.underlying9
  simp only [Nat.reduceAdd] at e1
  simp [run_underlying Try.underlying58, hr, part0, part1, e1]
  cases h1 : (a.toList == c.toList) <;> cases h2 : (b.toList == d.toList) <;> simp_all
theorem eqE1 (w : World) (z : ByteArray) : (Op.equalIn 10000 58 (.agg #[.string z, .string ⟨#[48]⟩]) (.agg #[.string z, .string ⟨#[48]⟩])).run Try.prog w = .ok true w := by
  have h := eqE w z ⟨#[48]⟩ z ⟨#[48]⟩
  rw [text_eq, text_eq] at h
  exact h
theorem g58 : Try.prog.eqGuardType Try.prog.depth 58 = false := by kernel_rfl
theorem g31 : Try.prog.eqGuardType Try.prog.depth 31 = false := by kernel_rfl
theorem intsS (w : World) (x : ByteArray) (t : TypeId) : S.Ints (some ⟨w.heap.size, 0, none⟩) [x] (w.alloc (.cells #[.string x] t)) := by
  refine .inr ⟨w.heap.size, 0, rfl, by simp, fun i k q => ?_⟩
  cases i with
  | succ i => simp at q
  | zero => simp at q; subst q; rw [Lib.cell_of_heap (heap_alloc_new w _)]; rfl
theorem intsE (w : World) (k : K2) (t : TypeId) : E.Ints (some ⟨w.heap.size, 0, none⟩) [k] (w.alloc (.cells #[.string k.1, .string k.2] t)) := by
  refine .inr ⟨w.heap.size, 0, rfl, by simp, fun i k' q => ?_⟩
  cases i with
  | succ i => simp at q
  | zero => simp at q; subst q; exact ⟨by rw [Lib.cell_of_heap (heap_alloc_new w _)]; rfl, by rw [Lib.cell_of_heap (heap_alloc_new w _)]; rfl⟩
theorem intsQ (w : World) (k : K2) (t : TypeId) : Q.Ints (some ⟨w.heap.size, 0, none⟩) [k] (w.alloc (.cells #[.string k.1, .string k.2] t)) := by
  refine .inr ⟨w.heap.size, 0, rfl, by simp, fun i k' q => ?_⟩
  cases i with
  | succ i => simp at q
  | zero => simp at q; subst q; exact ⟨by rw [Lib.cell_of_heap (heap_alloc_new w _)]; rfl, by rw [Lib.cell_of_heap (heap_alloc_new w _)]; rfl⟩
theorem balloc (w : World) (o : Obj) : Below w.heap.size w (w.alloc o) := (Below.refl _ _).alloc (Nat.le_refl _) _
set_option maxHeartbeats 16000000 in
set_option maxRecDepth 100000 in
theorem kinds_walk (po : Option Addr) (pcap : Nat) (ps : List K2) (x : ByteArray) (w : World) (hx : Q.Ints po ps w) (hc : ps.length ≤ pcap) (hok : ∀ k ∈ uni ps x, S.okk k) (hlen : Hid (ps.length ≤ 1048576)) :
    Calls Try.prog 8 #[.slice po ps.length pcap, .string x] w fun e w' => e = .returned (.bool true) ∧ Below w.heap.size w w' := by
  have hmf : ∀ (fn : Fn) (first cap : Array Value) (w : World), (Instr.makeFunc fn first cap).run Try.prog w = .ok (.func fn first cap) w := fun _ _ _ _ => rfl
  have b0 : Hid (Below w.heap.size w (w.alloc (.cells #[.slice po ps.length pcap] 22))) := (Below.refl _ _).alloc (Nat.le_refl _) _
  have HX : Hid (Bx w.heap.size po pcap ps (w.alloc (.cells #[.slice po ps.length pcap] 22))) := ⟨heap_alloc_new w _, hx.below b0.out, hc⟩
  have Hpo : Hid (ps ≠ [] → ∀ b off, po = some ⟨b, off, none⟩ → b < w.heap.size) := fun hn b off e => by
    rcases hx with h | ⟨b', off', h1, h2, _⟩
    · exact absurd h hn
    · rw [e] at h1; cases h1; exact h2
  have Hok := hide' hok
  clear hx hok
  go_enter Try.func8, Try.ntmps8
  go_wp2_with fail
  have hs0 : (w.alloc (.cells #[.slice po ps.length pcap] 22)).heap.size = w.heap.size + 1 := by simp
  generalize w.alloc (.cells #[.slice po ps.length pcap] 22) = W at *
  refine (up_any po pcap ps x W HX.out.2.1 hc hlen).mono ?_
  rintro e w1 ⟨n, no, ncap, hn, rfl, r1, b1⟩
  have H1 := hide' (And.intro hn (And.intro r1 b1))
  have HX1 := hide' (HX.out.below b1)
  have s1 := b1.size
  clear hn r1 b1
  go_wp2_with fail
  have C2 := hide' (kS w.heap.size po pcap ps x n w1.heap.size 1 _ (HX1.out.below (balloc w1 (.cells #[.string x] 9))) (fun h b off e => by have := Hpo.out h b off e; simp; omega) H1.out.1 (intsS w1 x 9) (Nat.le_refl _) Hok.out hlen)
  refine C2.out.mono ?_
  rintro e w2 ⟨ao, acap, rfl, r2, b2⟩
  have B2 : Hid (Below w1.heap.size w1 w2) := (balloc w1 _).trans (b2.mono (by simp))
  have R2 := hide' r2
  have HX2 := hide' (HX1.out.below B2.out)
  have s2 := B2.out.size
  clear r2 b2 C2
  go_wp2_with fail
  have C3 := hide' (kE w.heap.size po pcap ps x n w2.heap.size 1 _ (HX2.out.below (balloc w2 (.cells #[.string x, .string z0] 58))) (fun h b off e => by have := Hpo.out h b off e; simp; omega) H1.out.1 (intsE w2 (fE x) 58) (Nat.le_refl _) Hok.out hlen)
  refine C3.out.mono ?_
  rintro e w3 ⟨eo, ecap, rfl, r3, b3⟩
  have B3 : Hid (Below w2.heap.size w2 w3) := (balloc w2 _).trans (b3.mono (by simp))
  have R3 := hide' r3
  have HX3 := hide' (HX2.out.below B3.out)
  have s3 := B3.out.size
  clear r3 b3 C3
  go_wp2_with fail
  have C4 := hide' (kQ w.heap.size po pcap ps x n w3.heap.size 1 _ (HX3.out.below (balloc w3 (.cells #[.string x, .string x] 31))) (fun h b off e => by have := Hpo.out h b off e; simp; omega) H1.out.1 (intsQ w3 (fQ x) 31) (Nat.le_refl _) Hok.out hlen)
  refine C4.out.mono ?_
  rintro e w4 ⟨qo, qcap, rfl, r4, b4⟩
  have B4 : Hid (Below w3.heap.size w3 w4) := (balloc w3 _).trans (b4.mono (by simp))
  have FB : Hid (Below w.heap.size w w4) := by
    have a1 := b0.out.trans (H1.out.2.2.mono b0.out.size)
    have a2 := a1.trans (B2.out.mono a1.size)
    have a3 := a2.trans (B3.out.mono a2.size)
    exact a3.trans (B4.out.mono a3.size)
  have FR : Hid (S.Ints no (Bf.st (nxt ps) [x] n) w4 ∧ S.Ints ao (Bf.st (nxt ps) [x] n) w4 ∧ E.Ints eo ((Bf.st (nxt ps) [x] n).map fE) w4 ∧ Q.Ints qo ((Bf.st (nxt ps) [x] n).map fQ) w4) := by
    have c3 := B3.out.trans (B4.out.mono B3.out.size)
    have c2 := B2.out.trans (c3.mono B2.out.size)
    exact ⟨H1.out.2.1.ints.below c2, R2.out.ints.below c3, R3.out.ints.below B4.out, r4.ints⟩
  have hn := H1.out.1
  have c1 : n ≤ ncap := by have := H1.out.2.1.cap; omega
  have c2 : n ≤ acap := by have := R2.out.cap; omega
  have c3 : n ≤ ecap := by have := R3.out.cap; simp at this; omega
  have c4 : n ≤ qcap := by have := r4.cap; simp at this; omega
  have hn64 : (n : Int) ≤ 1048577 := by
    have := Bf.st_le (F := nxt ps) (fr := [x]) uni_from uni_next n
    have := uni_len ps x
    have := hlen.out
    omega
  have Hn := hide' hn
  clear r4 b4 C4 hn
  go_wp2_with fail
  refine (S.same_any n ao no acap ncap _ w4 Hn.out FR.out.2.1 FR.out.1 c2 c1 (by show _ < _; omega)).mono ?_
  rintro e W5 ⟨rfl, m5, rfl⟩
  go_wp2_with fail
  have heq := eqE1
  have hg58 := g58
  have hg31 := g31
  go_loopw [9] (fun i wx => ∃ k m : Nat, k ≤ n ∧ i = .int .i64 (k : Int) ∧ wx = w4.drewN m) (fun i _ => n - (intOf i).toNat)
  case atStart => exact ⟨0, m5, by omega, rfl, rfl⟩
  case round =>
    obtain ⟨k, m, hk, rfl, rfl⟩ := hrel
    by_cases hlt : k < n
    · have hlt' : (k : Int) < (n : Int) := by omega
      obtain ⟨z, hz⟩ : ∃ z, (Bf.st (nxt ps) [x] n)[k]? = some z := ⟨_, List.getElem?_eq_getElem (by have := Hn.out; omega)⟩
      obtain ⟨n1, o1, rfl, _, d1⟩ := FR.out.1.at hz
      obtain ⟨n3, o3, rfl, _, d3, d3'⟩ := FR.out.2.2.1.at (k := fE z) (by rw [List.getElem?_map, hz]; rfl)
      obtain ⟨n4, o4, rfl, _, d4, d4'⟩ := FR.out.2.2.2.at (k := fQ z) (by rw [List.getElem?_map, hz]; rfl)
      have t1 := text_eq z
      unfold fE z0 at d3 d3'
      unfold fQ at d4 d4'
      simp only at d3 d3' d4 d4'
      clear hz
      go_wp2
      go_quiet (fail)
      go_wp2_with fail
      exact ⟨⟨k + 1, m + nq, by omega, by go_num, rfl⟩, by simp [intOf]; omega⟩
    · have hkn : n = k := by omega
      subst hkn
      have hlt' : ¬ (n : Int) < (n : Int) := by omega
      go_wp2_with fail
      go_ret
      exact ⟨rfl, FB.out.trans (below_of2 ((Turn.refl (fun _ => False) w4).drewN m) (fun _ _ => id) FB.out.size)⟩
end N
end Go.Proofs.Ytahjhnikckmneaa
