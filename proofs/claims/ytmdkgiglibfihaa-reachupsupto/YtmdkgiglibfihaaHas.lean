import Derived.Test.YtmdkgiglibfihaaSRw
import Derived.Test.YtmdkgiglibfihaaQClL
import Derived.Test.YtmdkgiglibfihaaRw
set_option linter.unusedVariables false
set_option linter.unusedSimpArgs false
namespace Go.Proofs.Ytmdkgiglibfihaa
open Go.RowKit Go.Maps
theorem quiet_of_drew {P : Program} {f : FuncId} {args : Array Value} {w : World} {n : Nat} {v : Value} (h : Calls P f args (w.drewN n) fun e w' => e = .returned v ∧ ∃ m, w' = (w.drewN n).drewN m) : Calls P f args (w.drewN n) fun e w'' => e = .returned v ∧ ∃ m, w'' = w.drewN m :=
  h.mono fun _ _ ⟨he, m, hm⟩ => ⟨he, n + m, by rw [hm, World.drewN_drewN]⟩
theorem text_inj {a b : ByteArray} (h : a.toList = b.toList) : a = b := by
  rw [ByteArray.toList_eq, ByteArray.toList_eq] at h
  cases a; cases b
  simp only [ByteArray.mk.injEq]
  exact Array.toList_inj.1 h
theorem text_ne {a b : ByteArray} (h : a ≠ b) : (a.toList == b.toList) = false := by
  rw [beq_eq_false_iff_ne]
  exact fun e => h (text_inj e)
theorem text_eq (a : ByteArray) : (a.toList == a.toList) = true := by rw [beq_iff_eq]
namespace S
theorem Ints.drewN {to : Option Addr} {xs : List ByteArray} {w : World} (h : Ints to xs w) (n : Nat) : Ints to xs (w.drewN n) := h.turn ((Turn.refl (fun _ => False) w).drewN n) (fun _ _ _ _ q => q)
theorem Ints.alloc {to : Option Addr} {xs : List ByteArray} {w : World} (h : Ints to xs w) (o : Obj) : Ints to xs (w.alloc o) := h.turn ((Turn.refl (fun _ => False) w).alloc o) (fun _ _ _ _ q => q)
theorem isIn_step (ys : List ByteArray) (k : Nat) (z v : ByteArray) (hz : ys[k]? = some z) (hne : z ≠ v) (h : isIn (ys.take k) v = false) : isIn (ys.take (k + 1)) v = false := by
  rw [List.take_add_one, hz]
  refine isIn_no (fun q => ?_)
  rcases List.mem_append.1 q with q | q
  · rw [isIn_yes q] at h; cases h
  · simp at q; exact hne q.symm
set_option maxHeartbeats 1000000 in
set_option maxRecDepth 100000 in
theorem has_any (ao : Option Addr) (cap : Nat) (zs : List ByteArray) (s : ByteArray) (w : World) (h : Ints ao zs w) (hc : zs.length ≤ cap) (hl : Hid (zs.length < 4398046511104)) :
    Calls Try.prog 53 #[.slice ao zs.length cap, .string s] w fun e w' => e = .returned (.bool (isIn zs s)) ∧ w' = w := by
  have H := hide' h
  clear h
  go_enter Try.func53, Try.ntmps53
  go_wp2
  go_loopw [5] (fun i wx => ∃ k : Nat, k ≤ zs.length ∧ i = .int .i64 (k : Int) ∧ isIn (zs.take k) s = false ∧ wx = w) (fun i _ => zs.length - (intOf i).toNat)
  case atStart => exact ⟨0, by omega, rfl, by simp [isIn], rfl⟩
  case round =>
    obtain ⟨k, hk, rfl, hno, rfl⟩ := hrel
    by_cases hlt : k < zs.length
    · have hlt' : (k : Int) < (zs.length : Int) := by omega
      have hk64 : (k : Int) < 4398046511104 := by have := hl.out; omega
      obtain ⟨z, hz⟩ : ∃ z, zs[k]? = some z := ⟨_, List.getElem?_eq_getElem hlt⟩
      obtain ⟨x, off, rfl, _, c1⟩ := H.out.at hz
      have HN := hide' hno
      have Hz := hide' hz
      clear hz hno
      by_cases he : z = s
      · subst he
        have he1 := text_eq z
        have K : Hid (isIn zs z = true) := isIn_yes (List.mem_of_getElem? Hz.out)
        go_wp2
        go_ret
        rw [K.out]
        exact ⟨rfl, rfl⟩
      · have hs := hide' (isIn_step zs k z s Hz.out he HN.out)
        have he1 := text_ne he
        go_wp2
        exact ⟨⟨k + 1, by omega, by go_num, hs.out, trivial⟩, by simp [intOf]; omega⟩
    · have hkl : zs.length = k := by omega
      subst hkl
      have hlt' : ¬ (zs.length : Int) < (zs.length : Int) := by omega
      rw [List.take_length] at hno
      have HN := hide' hno
      clear hno
      go_wp2
      go_ret
      rw [HN.out]
      exact ⟨rfl, rfl⟩
set_option maxHeartbeats 1000000 in
set_option maxRecDepth 100000 in
/-- two slices of the same texts -/
theorem same_any (n : Nat) (a b : Option Addr) (ca cb : Nat) (ns : List ByteArray) (w : World) (hn : ns.length = n) (ha : Ints a ns w) (hb : Ints b ns w) (hca : n ≤ ca) (hcb : n ≤ cb) (hl : Hid (n < 4398046511104)) : Calls Try.prog 19 #[.slice a n ca, .slice b n cb] w fun e w' => e = .returned (.bool true) ∧ ∃ n, w' = w.drewN n := by
  subst hn
  have Ha := hide' ha
  have Hb := hide' hb
  clear ha hb
  go_enter Try.func19, Try.ntmps19
  go_wp2
  go_loopw [5] (fun i wx => ∃ k n : Nat, k ≤ ns.length ∧ i = .int .i64 (k : Int) ∧ wx = w.drewN n) (fun i _ => ns.length - (intOf i).toNat)
  case atStart => exact ⟨0, 0, by omega, rfl, rfl⟩
  case round =>
    obtain ⟨k, n, hk, rfl, rfl⟩ := hrel
    by_cases hlt : k < ns.length
    · have hlt' : (k : Int) < (ns.length : Int) := by omega
      have hk64 : (k : Int) < 4398046511104 := by have := hl.out; omega
      obtain ⟨z, hz⟩ : ∃ z, ns[k]? = some z := ⟨_, List.getElem?_eq_getElem hlt⟩
      obtain ⟨x, off, rfl, _, c1⟩ := Ha.out.at hz
      obtain ⟨y, offb, rfl, _, c2⟩ := Hb.out.at hz
      have hzz := text_eq z
      clear hz
      go_wp2
      go_quiet (fail)
      go_wp2
      exact ⟨⟨k + 1, n + nq, by omega, by go_num, rfl⟩, by simp [intOf]; omega⟩
    · have hkl : k = ns.length := by omega
      subst hkl
      have hlt' : ¬ (ns.length : Int) < (ns.length : Int) := by omega
      go_wp2
      go_ret
      exact ⟨rfl, n, rfl⟩
end S
end Go.Proofs.Ytmdkgiglibfihaa
