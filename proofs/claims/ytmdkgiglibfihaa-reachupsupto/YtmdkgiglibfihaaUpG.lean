import Derived.Test.YtmdkgiglibfihaaWbT
import Derived.Test.YtmdkgiglibfihaaUpR
set_option linter.unusedVariables false
set_option linter.unusedSimpArgs false
namespace Go.Proofs.Ytmdkgiglibfihaa
open Go.RowKit Go.Maps
namespace W
/-- no text is long -/
def Small (ps : List K2) (x : ByteArray) : Prop := (∀ p ∈ ps, p.1.size ≤ 1048576 ∧ p.2.size ≤ 1048576) ∧ x.size ≤ 1048576
theorem nm_mem {ps : List K2} {z : ByteArray} (h : z ∈ nm ps) : ∃ p ∈ ps, z = p.1 ∨ z = p.2 := by
  unfold nm at h
  rcases Bf.mem_add.1 h with q | q
  · cases q
  · obtain ⟨p, hp, q⟩ := List.mem_flatMap.1 q
    exact ⟨p, hp, by simpa using q⟩
theorem small_names {ps : List K2} {x : ByteArray} (h : Small ps x) : ∀ z ∈ Bf.add (nm ps) [x], z.size ≤ 1048576 := fun z hz => by
  rcases Bf.mem_add.1 hz with q | q
  · obtain ⟨p, hp, e | e⟩ := nm_mem q
    · rw [e]; exact (h.1 p hp).1
    · rw [e]; exact (h.1 p hp).2
  · simp at q; rw [q]; exact h.2
theorem okk_of {s : ByteArray} (h : s.size ≤ 1048576) : S.okk s := by show s.size ≤ maxLen; unfold maxLen; omega
set_option maxRecDepth 100000 in
set_option maxHeartbeats 4000000 in
theorem up_any (po : Option Addr) (pcap : Nat) (ps : List K2) (x : ByteArray) (w : World) (hx : Q.Ints po ps w) (hc : ps.length ≤ pcap) (hs : Small ps x) (hlen : Hid (ps.length ≤ 1048576)) :
    Calls Try.prog 16 #[.slice po ps.length pcap, .string x] w fun e w' => N.UpIs ps x w e w' := by
  have HN := hide' (newWeb_any po pcap ps w hx hc (fun p hp => ⟨okk_of (hs.1 p hp).1, okk_of (hs.1 p hp).2⟩) hlen)
  have Hs := hide' hs
  have hnl : Hid ((nm ps).length ≤ 2097152) := by have := nm_len ps; have := hlen.out; show _ ≤ _; omega
  have hzl : Hid ((Bf.add (nm ps) [x]).length ≤ 2097154) := by have := Bf.add_len_le (nm ps) [x]; have := hnl.out; show _ ≤ _; simp at *; omega
  clear hx hc hs
  go_enter Try.func16, Try.ntmps16
  go_wp2_with fail
  refine HN.out.mono ?_
  rintro e w1 ⟨wx, bm, no, ncap, xo, xcap, rs, rfl, hW, hA, b1⟩
  have H1 := hide' (And.intro hW (And.intro hA b1))
  clear hW hA b1 HN
  go_wp2_with fail
  refine (number_any ps w.heap.size wx bm no ncap xo xcap (nm ps) rs x w1 H1.out.1 H1.out.2.1 (okk_of Hs.out.2) (by have := hnl.out; show _ < _; omega)).mono ?_
  rintro e w2 ⟨rfl, no2, ncap2, xo2, xcap2, rs2, hW2, hA2, t2, _⟩
  have hxz : Hid (x ∈ Bf.add (nm ps) [x]) := Bf.mem_add.2 (.inr (by simp))
  have hsz : Hid (∀ z ∈ Bf.add (nm ps) [x], z.size ≤ 281474976710656) := fun z hz => by have := small_names Hs.out z hz; omega
  have b2 : Hid (Below w.heap.size w w2) := H1.out.2.2.trans (below3 t2 (fun j q => (H1.out.1.own j q).1) H1.out.2.2.size)
  have H2 := hide' (And.intro hW2 hA2)
  clear hW2 hA2 t2
  generalize hzz : Bf.add (nm ps) [x] = zs at *
  have Hzz := hide' hzz
  clear hzz
  have hi := ix_lt hxz.out
  go_wp2_with fail
  refine (upN_any w.heap.size wx bm no2 ncap2 xo2 xcap2 ps zs rs2 (ix zs x) w2 H2.out.1 H2.out.2 hi ⟨hzl.out, hlen.out⟩).mono ?_
  rintro e w3 ⟨n, ao, cap, hn, rfl, r3, b3⟩
  have hcap : n ≤ cap := by have := r3.cap; omega
  have hsub := Bf.st_sub (F := nxI rs2) (fr := [(ix zs x : Int)]) (u := nums zs.length) (fun k hk => by simp at hk; subst hk; exact mem_nums.2 ⟨_, hi, rfl⟩) H2.out.2.closed n
  have hnn : Hid (n ≤ 1073741824) := by
    have h1 := Bf.nodup_le (Bf.st_nodup (F := nxI rs2) (fr := [(ix zs x : Int)]) n) hsub
    rw [nums_len, hn] at h1
    have := hzl.out
    show _ ≤ _
    omega
  have CT := hide' (told_any w.heap.size wx bm no2 ncap2 xo2 xcap2 zs rs2 ao cap n (Bf.st (nxI rs2) [(ix zs x : Int)] n) w3 (H2.out.1.below b3) r3.ints hn hcap hsub hsz.out ⟨hzl.out, hnn.out⟩)
  have hst := hide' (st_names H2.out.2 hxz.out n)
  have b3' : Hid (Below w.heap.size w w3) := b2.out.trans (b3.mono b2.out.size)
  have Hn := hide' hn
  clear r3 b3 hsub hn
  go_wp2_with fail
  refine CT.out.mono ?_
  rintro e w4 ⟨ao4, cap4, rfl, r4, b4⟩
  have K : Hid (N.UpIs ps x w (.returned (.slice ao4 n cap4)) w4) := by
    rw [hst.out] at r4
    have hl : (Bf.st (N.nxt ps) [x] n).length = n := by rw [← hst.out, List.length_map]; exact Hn.out
    exact ⟨n, ao4, cap4, hl, rfl, r4.mono b3'.out.size, b3'.out.trans (b4.mono b3'.out.size)⟩
  rw [List.length_map, Hn.out]
  clear r4 b4 CT
  go_wp2_with fail
  go_ret
  exact K.out
end W
end Go.Proofs.Ytmdkgiglibfihaa
