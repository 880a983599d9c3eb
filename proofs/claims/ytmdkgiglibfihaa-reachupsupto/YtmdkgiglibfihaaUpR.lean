import Derived.Test.YtmdkgiglibfihaaBrW
set_option linter.unusedVariables false
set_option linter.unusedSimpArgs false
namespace Go.Proofs.Ytmdkgiglibfihaa
open Go.RowKit Go.Maps
namespace N
/-- what the document's Up leaves -/
def UpIs (ps : List K2) (x : ByteArray) (w : World) (e : Ending) (w' : World) : Prop := ∃ n no ncap, (Bf.st (nxt ps) [x] n).length = n ∧ e = .returned (.slice no n ncap) ∧ S.RowI w.heap.size no ncap (Bf.st (nxt ps) [x] n) w' ∧ Below w.heap.size w w'
set_option maxHeartbeats 2000000 in
set_option maxRecDepth 100000 in
theorem up_any (po : Option Addr) (pcap : Nat) (ps : List K2) (x : ByteArray) (w : World) (hx : Q.Ints po ps w) (hc : ps.length ≤ pcap) (hlen : Hid (ps.length ≤ 1048576)) :
    Calls Try.prog 13 #[.slice po ps.length pcap, .string x] w fun e w' => UpIs ps x w e w' := by
  have HB := hide' (breadth_any po pcap ps x w hx hc hlen)
  clear hx hc
  go_enter Try.func13, Try.ntmps13
  go_wp2_with fail
  refine HB.out.mono ?_
  rintro e w1 ⟨n, no, ro, ncap, rcap, hn, rfl, h1, h2, h3⟩
  have K : Hid (∀ o, UpIs ps x w (.returned (.slice no n ncap)) (w1.alloc o)) := fun o => ⟨n, no, ncap, hn, rfl, h1.turn ((Turn.refl (fun _ => False) w1).alloc o) (fun _ _ => id), h3.alloc h3.size o⟩
  clear hn h1 h2 h3
  go_wp2
  go_ret
  exact K.out _
end N
end Go.Proofs.Ytmdkgiglibfihaa
