import Derived.Test.YtppcofopnelgjaaGreatDoorGrZ
set_option linter.unusedVariables false
set_option linter.unusedSimpArgs false
namespace Go.Proofs.YtppcofopnelgjaaGreatDoor
open Go.RowKit
attribute [local go_sem] Oper.semAt_some
def El.isTok : El → Bool
  | .tok _ _ _ _ => true
  | .flt _ _ _ _ _ => false
def El.cells : El → List Value
  | .tok k t l c => [.int .i8 k, .string t, .int .i64 l, .int .i64 c]
  | .flt _ _ _ _ _ => [.int .i8 0, .string ⟨#[]⟩, .int .i64 0, .int .i64 0]
theorem info29 : (Tryz.prog.info? 44).map (fun i => (i.zero, i.size, i.bytes)) = some (some (.agg #[.int .i8 0, .string ByteArray.empty, .int .i64 0, .int .i64 0]), 4, 40) := by kernel_rfl
/-- an append within a round, and where the row lies behind it -/
theorem appendIn {F : Fence} {n : Nat} {P : Program} (w : World) {ops : Array Oper} {rest : List Oper} {o : Oper} {a : Act} {Q : Exit → Act → World → Prop}
    (hg : o.guard = none) (s x : Operand) (t : TypeId) (hop : o.op = Op.call { callee := Callee.builtin Builtin.append, args := #[s, x], argTypes := #[t, t] })
    (base : Nat) (e : TypeId) (i : TypeInfo) (z : Value) (size bytes : Nat) (h1 : P.underlying t = some (.slice e)) (h2 : P.info? e = some i) (h3 : i.zero = some z) (h4 : i.size = size) (h5 : i.bytes = bytes) (h6 : z.cells.size = size) (h7 : 0 < size)
    (v : Value) (k : Nat) (xs : List Value) (hs : a.eval s = v) (hown : w.ownsRow base e size v k xs) (ad : Addr) (m c : Nat) (news : List Value) (hx : a.eval x = .slice (some ad) m c) (hn : news.length = m * size)
    (hc : ∀ j u, news[j]? = some u → w.cell? (ad.add j) = some u) (h1c : ∀ u ∈ news, u.oneCell' = true) (hm : 0 < m) (b1 : k + m ≤ maxLen) (b2 : (k + m) * bytes ≤ 140737488355328) (b3 : base ≤ w.heap.size)
    (hK : ∀ g cap w', w'.ownsRow base e size (.slice (some ⟨g, 0, none⟩) (k + m) cap) (k + m) (xs ++ news) → w.grownBy w' v.ownBlock → (v.ownBlock = some g ∨ g = w.heap.size) → wpListIn F n P ops Q rest (a.put o.dst (.slice (some ⟨g, 0, none⟩) (k + m) cap)) w') :
    wpListIn F n P ops Q (o :: rest) a w := by
  obtain ⟨g, cap, w', hrun, r1, r2, r3, _⟩ := run_append_lies (P := P) w t o.type base e i z size bytes h1 h2 h3 h4 h5 h6 h7 v k xs hown ad m c news hn hc h1c hm b1 b2 b3 w.heap.size rfl
  refine wpListIn_plain hg fun K hK' => ⟨?_, ?_⟩
  · simp [Oper.about, hop, resolve, Target.leads, Sem.run_pure]
  · rw [Oper.semAt_plain F _ _ (by rw [hop]; intro c hc'; cases hc')]
    simp [execOp, hop, resolve, invoke, builtin, hs, hx, hrun, Result.andThen]
    exact hK' _ _ (hK g cap w' r1 r2 r3)
theorem four_new (w : World) (x y z u' : Value) (t : TypeId) : ∀ j u, [x, y, z, u'][j]? = some u → (w.alloc (.cells #[x, y, z, u'] t)).cell? ((⟨w.heap.size, 0, none⟩ : Addr).add j) = some u := by
  intro j u hj
  exact World.news_of_block (heap_alloc_new w (.cells #[x, y, z, u'] t)) j u (by simpa using hj)
/-- WHAT STANDS WHILE Scan GATHERS -/
structure SI (w : World) (n1 b : Nat) (pre : List El) (W : World) : Prop where
  all : ∀ x ∈ pre, x.isTok = true
  row : ∃ v, W.cell? ⟨w.heap.size + 1 + 1, 0, none⟩ = some v ∧ W.ownsRow (n1 + 2) 44 4 v pre.length (pre.flatMap El.cells) ∧ ∀ g, v.ownBlock = some g → g ≠ b
  f2 : W.frozen? ⟨w.heap.size + 1 + 1, 0, none⟩ = false
  r0 : W.cell? ⟨w.heap.size, 0, none⟩ = some (.slice none 0 0)
  f0 : W.frozen? ⟨w.heap.size, 0, none⟩ = false
  r1 : W.cell? ⟨w.heap.size + 1, 0, none⟩ = some .nilIface
  f1 : W.frozen? ⟨w.heap.size + 1, 0, none⟩ = false
  bel : Below w.heap.size w W
  lo : w.heap.size + 3 ≤ n1
  sz : n1 + 2 ≤ W.heap.size
  blt : b < W.heap.size
theorem SI.turn {w : World} {n1 b : Nat} {pre : List El} {W W' : World} (h : SI w n1 b pre W) (hb : n1 + 2 ≤ b) (t : Turn (fun k => k = b ∨ k = n1 + 1) W W') : SI w n1 b pre W' := by
  have lo := h.lo
  have sz := h.sz
  have hk : ∀ k, k < n1 → W'.heap[k]? = W.heap[k]? := fun k hk => t.block k (by omega) (by omega)
  obtain ⟨v, v1, v2, v3⟩ := h.row
  refine ⟨h.all, ⟨v, (World.cell?_of_block (hk _ (by simp; omega))).trans v1, t.row v2 (fun g hg => ?_), v3⟩, (World.frozen?_of_block (hk _ (by simp; omega))).trans h.f2, (World.cell?_of_block (hk _ (by simp; omega))).trans h.r0, (World.frozen?_of_block (hk _ (by simp; omega))).trans h.f0, (World.cell?_of_block (hk _ (by simp; omega))).trans h.r1, (World.frozen?_of_block (hk _ (by simp; omega))).trans h.f1, ?_, lo, Nat.le_trans sz t.size, Nat.lt_of_lt_of_le h.blt t.size⟩
  · have h1 := v3 g hg
    have h2 := (v2.lt g hg).1
    omega
  · exact h.bel.trans (t.below (fun k q => by omega) (by have := h.bel.size; omega))
/-- one token more -/
theorem SI.app {w : World} {n1 b N0 : Nat} {pre : List El} {W : World} (h : SI w n1 b pre W) (hb : n1 + 2 ≤ b) {M : Nat → Prop} (hM : ∀ k, M k → k = b ∨ (w.heap.size + 3 ≤ k ∧ k < n1)) (hN : n1 + 2 ≤ N0 ∧ N0 < W.heap.size) {v : Value} (v1 : W.cell? ⟨w.heap.size + 1 + 1, 0, none⟩ = some v)
    (v2 : W.ownsRow (n1 + 2) 44 4 v pre.length (pre.flatMap El.cells)) (v3 : ∀ g, v.ownBlock = some g → g ≠ b ∧ g < N0) (o : Obj) (x : El) (hx : x.isTok = true) (g cap : Nat) (w3 : World)
    (hrow : w3.ownsRow (n1 + 2) 44 4 (.slice (some ⟨g, 0, none⟩) (pre.length + 1) cap) (pre.length + 1) (pre.flatMap El.cells ++ x.cells)) (hgr : (W.alloc o).grownBy w3 v.ownBlock) (hat : v.ownBlock = some g ∨ g = (W.alloc o).heap.size) :
    (w3.cell? ⟨w.heap.size + 1 + 1, 0, none⟩ = some v ∧ w3.frozen? ⟨w.heap.size + 1 + 1, 0, none⟩ = false) ∧
    (∀ k, k = n1 ∨ k = n1 + 1 → (w3.setCell ⟨w.heap.size + 1 + 1, 0, none⟩ (.slice (some ⟨g, 0, none⟩) (pre.length + 1) cap)).heap[k]? = W.heap[k]?) ∧
    Keep (fun k => M k ∨ k = N0) W (w3.setCell ⟨w.heap.size + 1 + 1, 0, none⟩ (.slice (some ⟨g, 0, none⟩) (pre.length + 1) cap)) ∧
    SI w n1 b (pre ++ [x]) (w3.setCell ⟨w.heap.size + 1 + 1, 0, none⟩ (.slice (some ⟨g, 0, none⟩) (pre.length + 1) cap)) := by
  have lo := h.lo
  have sz := h.sz
  have blt := h.blt
  have hgs := hgr.size
  rw [World.size_alloc'] at hgs
  have hown : ∀ k, k < W.heap.size → some k ≠ v.ownBlock → w3.heap[k]? = W.heap[k]? := fun k hk hne => (hgr.block k (by simp; omega) hne).trans (Below.heap_alloc _ _ _ hk)
  have hlow : ∀ k, k < n1 + 2 → w3.heap[k]? = W.heap[k]? := fun k hk => hown k (by omega) (fun e => by have := (v2.lt k e.symm).1; omega)
  have c2 := (World.cell?_of_block (a := ⟨w.heap.size + 1 + 1, 0, none⟩) (hlow (w.heap.size + 1 + 1) (by omega))).trans v1
  have t3 : Turn (fun k => k = w.heap.size + 1 + 1) w3 (w3.setCell ⟨w.heap.size + 1 + 1, 0, none⟩ (.slice (some ⟨g, 0, none⟩) (pre.length + 1) cap)) := (Turn.refl (fun k => k = w.heap.size + 1 + 1) w3).setCell (p := ⟨w.heap.size + 1 + 1, 0, none⟩) (fun _ => rfl) _
  have hset : ∀ k, k ≠ w.heap.size + 1 + 1 → (w3.setCell ⟨w.heap.size + 1 + 1, 0, none⟩ (.slice (some ⟨g, 0, none⟩) (pre.length + 1) cap)).heap[k]? = w3.heap[k]? := fun k hk => Below.heap_setCell _ _ _ _ hk
  refine ⟨⟨c2, (World.frozen?_of_block (a := ⟨w.heap.size + 1 + 1, 0, none⟩) (hlow (w.heap.size + 1 + 1) (by omega))).trans h.f2⟩, fun k hk => (hset k (by omega)).trans (hlow k (by omega)), ⟨by have := t3.size; omega, fun k hk hl => ?_⟩, ?_⟩
  · have hne : k ≠ w.heap.size + 1 + 1 ∧ some k ≠ v.ownBlock := by
      rcases hk with hk | hk
      · rcases hM k hk with hk | hk
        · exact ⟨by omega, fun e => (v3 k e.symm).1 hk⟩
        · exact ⟨by omega, fun e => by have := (v2.lt k e.symm).1; omega⟩
      · exact ⟨by omega, fun e => by have := (v3 k e.symm).2; omega⟩
    exact (hset k hne.1).trans (hown k hl hne.2)
  · have hk0 : ∀ k, k < n1 → k ≠ w.heap.size + 1 + 1 → (w3.setCell ⟨w.heap.size + 1 + 1, 0, none⟩ (.slice (some ⟨g, 0, none⟩) (pre.length + 1) cap)).heap[k]? = W.heap[k]? := fun k hk hne => (hset k hne).trans (hlow k (by omega))
    refine ⟨fun y hy => ?_, ⟨_, World.cell?_setCell_same' _ _ _ (by rw [c2]; rfl), ?_, fun g' hg' => ?_⟩, ?_, (World.cell?_of_block (hk0 _ (by simp; omega) (by simp; omega))).trans h.r0, (World.frozen?_of_block (hk0 _ (by simp; omega) (by simp; omega))).trans h.f0, (World.cell?_of_block (hk0 _ (by simp; omega) (by simp))).trans h.r1, (World.frozen?_of_block (hk0 _ (by simp; omega) (by simp))).trans h.f1, ?_, lo, ?_, ?_⟩
    · rcases List.mem_append.1 hy with hy | hy
      · exact h.all y hy
      · simp at hy; rw [hy]; exact hx
    · rw [List.length_append, List.flatMap_append]
      have := t3.row hrow (fun k hk => by have := (hrow.lt k hk).1; omega)
      simpa using this
    · have e : g = g' := by simpa [Value.ownBlock] using hg'
      subst e
      rcases hat with hat | hat
      · exact (v3 g hat).1
      · rw [World.size_alloc'] at hat; omega
    · rw [World.frozen?_setCell]; exact (World.frozen?_of_block (a := ⟨w.heap.size + 1 + 1, 0, none⟩) (hlow (w.heap.size + 1 + 1) (by omega))).trans h.f2
    · refine Below.setCell ?_ (by simp; omega) _
      exact (h.bel.alloc h.bel.size o).grown hgr (by simp; have := h.bel.size; omega) (fun k hk => by have := (v2.lt k hk).1; omega)
    · have := t3.size; omega
    · have := t3.size; omega
/-- how Scan stops -/
structure SX (w : World) (n1 : Nat) (c : Code) (pre : List El) (W : World) : Prop where
  c : c = .ret
  last : ∃ pre' fb code l cx word, pre = pre' ++ [.flt fb code l cx word] ∧ W.cell? ⟨w.heap.size + 1, 0, none⟩ = some (.iface 72 (.pointer (some ⟨fb, 0, none⟩))) ∧ Flt fb code l cx word W ∧ fb ≠ n1 + 1 ∧ w.heap.size ≤ fb
  r0 : W.cell? ⟨w.heap.size, 0, none⟩ = some (.slice none 0 0)
  bel : Below w.heap.size w W
  lo : w.heap.size + 3 ≤ n1
theorem SX.turn {w : World} {n1 : Nat} {c : Code} {pre : List El} {W W' : World} (h : SX w n1 c pre W) (t : Turn (fun k => k = n1 + 1) W W') : SX w n1 c pre W' := by
  have lo := h.lo
  obtain ⟨pre', fb, code, l, cx, word, h1, h2, h3, h4, h5⟩ := h.last
  refine ⟨h.c, ⟨pre', fb, code, l, cx, word, h1, (t.cell (p := ⟨w.heap.size + 1, 0, none⟩) (lt_of_cell h2) (by simp; omega)).trans h2, (t.block fb (Array.getElem?_eq_some_iff.1 h3).1 h4).trans h3, h4, h5⟩, (t.cell (p := ⟨w.heap.size, 0, none⟩) (lt_of_cell h.r0) (by simp; omega)).trans h.r0, h.bel.trans (t.below (fun k q => by omega) h.bel.size), lo⟩

/-- the error beside a thing -/
def El.err : El → Value
  | .tok _ _ _ _ => .nilIface
  | .flt fb _ _ _ _ => .iface 72 (.pointer (some ⟨fb, 0, none⟩))
def El.agg (x : El) : Value := .agg x.cells.toArray
theorem El.encs_eq (x : El) : x.encs = #[x.agg, x.err] := by cases x <;> rfl
/-- a round has begun -/
structure SA (w : World) (n1 Nb : Nat) (tm : El → Nat → Act) (b : Nat) (pre : List El) (x : El) (N0 : Nat) (a : Act) (W : World) : Prop where
  si : SI w n1 b pre W
  len : pre.length < Nb
  row : ∀ v g, W.cell? ⟨w.heap.size + 1 + 1, 0, none⟩ = some v → v.ownBlock = some g → g < N0
  n0 : N0 < W.heap.size ∧ n1 + 2 ≤ N0
  act : ∃ bx, a = tm x bx ∧ n1 + 2 ≤ bx ∧ W.heap[bx]? = some (.cells x.cells.toArray 44 (0, 0))
  has : x.Has n1 W
  fb : ∀ fb code l c word, x = .flt fb code l c word → fb ≠ n1 + 1 ∧ w.heap.size ≤ fb
theorem SA.turn {w : World} {n1 Nb : Nat} {tm : El → Nat → Act} {b : Nat} {pre : List El} {x : El} {N0 : Nat} {a : Act} {W W' : World} (h : SA w n1 Nb tm b pre x N0 a W) (hb : n1 + 2 ≤ b) (t : Turn (fun k => k = n1 + 1) W W') : SA w n1 Nb tm b pre x N0 a W' := by
  have lo := h.si.lo
  have sz := h.si.sz
  obtain ⟨bx, h1, h2, h3⟩ := h.act
  have hc : W'.cell? ⟨w.heap.size + 1 + 1, 0, none⟩ = W.cell? ⟨w.heap.size + 1 + 1, 0, none⟩ := t.cell (p := ⟨w.heap.size + 1 + 1, 0, none⟩) (by simp; omega) (by simp; omega)
  refine ⟨h.si.turn hb (t.mono fun k _ q => Or.inr q), h.len, fun v g e => h.row v g (hc ▸ e), ⟨Nat.lt_of_lt_of_le h.n0.1 t.size, h.n0.2⟩, ⟨bx, h1, h2, (t.block bx (Array.getElem?_eq_some_iff.1 h3).1 (by omega)).trans h3⟩, ?_, h.fb⟩
  have hh := h.has
  have hfb := h.fb
  cases x with
  | tok k t l c => trivial
  | flt fb code l c word => exact ⟨(t.block fb (Array.getElem?_eq_some_iff.1 hh.1).1 (hfb _ _ _ _ _ rfl).1).trans hh.1, hh.2⟩

/-- what Scan tells of a text that is not too long -/
def ScanOk (T : Tx) (w : World) (v : Value) (w' : World) : Prop :=
  (∃ xs sv, T.All xs ∧ (∀ x ∈ xs, x.isTok = true) ∧ v = .tuple #[sv, .nilIface] ∧ w'.ownsRow w.heap.size 44 4 sv xs.length (xs.flatMap El.cells)) ∨
  (∃ pre fb code l c word, T.Part (pre ++ [.flt fb code l c word]) ∧ v = .tuple #[.slice none 0 0, .iface 72 (.pointer (some ⟨fb, 0, none⟩))] ∧ w.heap.size ≤ fb ∧ Flt fb code l c word w')

set_option maxHeartbeats 2000000 in
set_option maxRecDepth 100000 in
theorem scan_any (s : ByteArray) (w : World) (hs : s.size ≤ 65536) :
    Calls Tryz.prog 26 #[.string s] w fun e w' => ∃ (T : Tx) (v : Value), T.s = s ∧ T.C = L.cx s ∧ T.Ok ∧ e = .returned v ∧ ScanOk T w v w' ∧ Below w.heap.size w w' := by
  refine (callsIn_wide (n := 9)).1 ?_
  refine callsIn_of_wp_marks Tryz.func26 rfl trivial ?_ rfl
  refine wpIn_wide.2 ?_
  simp only [Tryz.ntmps26, List.size_toArray, List.length_cons, List.length_nil, Nat.reduceAdd, Nat.reduceSub, Array.replicate_succ, Array.replicate_zero, List.push_toArray, List.append_toArray, List.nil_append, List.cons_append]
  go_wp2_with (go_at_call 45; refine (each_any _ _ hs).mono ?_; rintro e w1 ⟨T, cb, hTs, hTC, hok, hN, rfl, hcb, hin, hcb0, b1⟩)
  obtain ⟨n1, hn1⟩ : ∃ n1, w1.heap.size = n1 := ⟨_, rfl⟩
  have hz := b1.size
  simp only [World.size_alloc'] at hz hcb0
  have hin' : T.In (fun k => w1.heap.size ≤ k) w1 := ⟨fun j hj => by obtain ⟨rb, e, q, hl, hc⟩ := hin.rune j hj; exact ⟨rb, e, by omega, hl, hc⟩, by have := hin.start.2.1; omega, hin.start.2⟩
  have hrow : ∀ k, (k = T.sb ∨ (0 < T.N ∧ T.ro = some ⟨k, 0, none⟩)) → w.heap.size + 3 ≤ k ∧ k < n1 := by
    rintro k (hk | ⟨hN0, hk⟩)
    · have h1 := hin.start.1
      have h2 := hin.start.2.1
      rw [← hk] at h1 h2
      simp only [World.size_alloc'] at h1
      omega
    · obtain ⟨rb, e, q, hl, _⟩ := hin.rune 0 hN0
      rw [e] at hk
      injection hk with hk; injection hk with hk
      subst hk
      simp only [World.size_alloc'] at q
      omega
  obtain ⟨g0, g1, g2⟩ : w1.cell? ⟨cb, 0, none⟩ = some (.string T.s) ∧ w1.cell? ⟨cb, 1, none⟩ = some T.rv ∧ w1.cell? ⟨cb, 2, none⟩ = some T.sv := by
    refine ⟨?_, ?_, ?_⟩ <;> simp [World.cell?, hcb]
  obtain ⟨tm, htm⟩ : ∃ tm : El → Nat → Act, tm = fun x bx => { tmps := #[.string s, undef, .pointer (some ⟨w.heap.size, 0, none⟩), .pointer (some ⟨w.heap.size + 1, 0, none⟩), .pointer (some ⟨w.heap.size + 1 + 1, 0, none⟩), .pointer (some ⟨bx, 0, none⟩), x.err, .string s, .func (.func 67) #[] #[.pointer (some ⟨cb, 0, none⟩)], x.agg, x.err, undef, undef, undef, undef, undef, undef, undef, undef], defers := [] } := ⟨_, rfl⟩
  obtain ⟨i0, hi, hz0, hz1, hz2⟩ := info_parts info29
  refine (wpIn_wide (n := 9)).1 ?_
  refine range_own (F := Fence.wide) (n := 9) rfl (by omega) (gf := 67) (lb := #[.pointer (some ⟨cb, 0, none⟩)]) rfl trivial (enters_of Tryz.func67 (by kernel_rfl) rfl)
    (each1_seq (9 - 1) (by omega) T hok hN cb w1 hin' g0 g1 g2) (fun x => by cases x <;> rfl) ?hM (SI w n1) (SX w n1) (fun b pre x N0 a W => n1 + 2 ≤ b ∧ SA w n1 (T.N + 1) tm b pre x N0 a W) ?hI0
    (fun b pre W1 W2 hb h t => h.turn (by omega) (by rw [hn1] at t; exact t)) (fun c pre W1 W2 h t => h.turn (by rw [hn1] at t; exact t)) (fun b pre x N0 a' W1 W2 h t => ⟨h.1, h.2.turn h.1 (by rw [hn1] at t; exact t)⟩) ?assign ?body ?done ?stop
  case hM =>
    rintro b hb hM
    rcases hM with hM | hM | hM
    · omega
    · have := hin.start.2.1; omega
    · obtain ⟨rb, e, q, hl, _⟩ := hin.rune 0 hM.1
      have hM2 := hM.2
      rw [e] at hM2
      injection hM2 with hM2; injection hM2 with hM2
      omega
  case hI0 =>
    intro b W' hb hbl hW
    have q2 : W'.heap[w.heap.size + 1 + 1]? = some (.cells #[.slice none 0 0] 40 (0, 0)) := by
      rw [hW.block _ (by omega), b1.block _ (by simp)]
      have := heap_alloc_new ((w.alloc (.cells #[.slice none 0 0] 40)).alloc (.cells #[.nilIface] 33)) (.cells #[.slice none 0 0] 40)
      simpa using this
    have q1 : W'.heap[w.heap.size + 1]? = some (.cells #[.nilIface] 33 (0, 0)) := by
      rw [hW.block _ (by omega), b1.block _ (by simp)]
      refine (Below.heap_alloc _ _ _ (by simp)).trans ?_
      have := heap_alloc_new (w.alloc (.cells #[.slice none 0 0] 40)) (.cells #[.nilIface] 33)
      simpa using this
    have q0 : W'.heap[w.heap.size]? = some (.cells #[.slice none 0 0] 40 (0, 0)) := by
      rw [hW.block _ (by omega), b1.block _ (by simp; omega)]
      refine (Below.heap_alloc _ _ _ (by simp; omega)).trans ((Below.heap_alloc _ _ _ (by simp)).trans (heap_alloc_new _ _))
    have bb : Below w.heap.size w (((w.alloc (.cells #[.slice none 0 0] 40)).alloc (.cells #[.nilIface] 33)).alloc (.cells #[.slice none 0 0] 40)) := (((Below.refl _ _).alloc (Nat.le_refl _) _).alloc (by simp) _).alloc (by simp; omega) _
    refine ⟨by simp, ⟨.slice none 0 0, by simp [World.cell?, q2], World.ownsRow_nil _ _ _ _, fun g hg => by simp [Value.ownBlock] at hg⟩, by simp [World.frozen?, q2], by simp [World.cell?, q0], by simp [World.frozen?, q0], by simp [World.cell?, q1], by simp [World.frozen?, q1], ?_, by omega, by omega, hbl⟩
    exact (bb.trans (b1.mono (by simp; omega))).trans (hW.mono (by omega))
  case assign =>
    intro l b pre x W0 o K hb hW0 hlen hrec hI hhas hK
    have ba : Below W0.heap.size W0 (W0.alloc o) := (Below.refl _ _).alloc (Nat.le_refl _) _
    have fin : ∀ (cs : Array Value), cs = x.cells.toArray → SA w n1 (T.N + 1) tm b pre x W0.heap.size (tm x (W0.heap.size + 1)) ((W0.alloc o).alloc (.cells cs 44)) := by
      rintro _ rfl
      have bb : Below (W0.alloc o).heap.size (W0.alloc o) ((W0.alloc o).alloc (.cells x.cells.toArray 44)) := (Below.refl _ _).alloc (Nat.le_refl _) _
      have b2 : Below W0.heap.size W0 ((W0.alloc o).alloc (.cells x.cells.toArray 44)) := ba.trans (bb.mono ba.size)
      have hfb : ∀ fb code l c word, x = .flt fb code l c word → fb ≠ n1 + 1 ∧ w.heap.size ≤ fb := by
        rintro fb code l c word rfl
        obtain ⟨r, hr⟩ := hrec
        have hh : (W0.alloc o).heap[fb]? = some (.cells #[.int .i64 code, .int .i64 l, .int .i64 c, .string word] 26 (0, 0)) := hhas.1
        refine ⟨fun e => ?_, ?_⟩
        · rw [hn1, ← e, hh] at hr; cases hr
        · have := hhas.2; omega
      refine ⟨hI.turn (by omega) (turn_below b2), hlen, ?_, ⟨by simp; omega, by omega⟩, ⟨W0.heap.size + 1, rfl, by omega, ?_⟩, ?_, hfb⟩
      · intro v g hv hg
        obtain ⟨v', e1, e2, _⟩ := hI.row
        rw [b2.cell (p := ⟨w.heap.size + 1 + 1, 0, none⟩) (by have := hI.lo; simp; omega), e1] at hv
        injection hv with hv
        subst hv
        exact (e2.lt g hg).2
      · have := heap_alloc_new (W0.alloc o) (.cells x.cells.toArray 44)
        simpa using this
      · cases x with
        | tok k t l c => trivial
        | flt fb code l c word => exact ⟨(bb.block fb (Array.getElem?_eq_some_iff.1 hhas.1).1).trans hhas.1, by have := hhas.2; omega⟩
    have hK2 := fun a' cs (ha : a' = tm x (W0.heap.size + 1)) (hc : cs = x.cells.toArray) => hK a' ((W0.alloc o).alloc (.cells cs 44)) ((Below.refl _ _).alloc (Nat.le_refl _) _) ⟨by omega, ha ▸ fin cs hc⟩
    have HK := hide' hK2
    clear hK hK2 fin ba hI hrec hhas
    rw [htm] at HK
    cases x with
    | tok k t lx cx =>
      unfold El.encs tokV
      gi_wp2
      exact HK.out _ _ rfl rfl
    | flt fb code lx cx word =>
      unfold El.encs
      gi_wp2
      exact HK.out _ _ rfl rfl
  case body =>
    rintro l b pre x N0 a' W hb hrec ⟨hb2, hA⟩
    obtain ⟨si, len, row, n0, ⟨bx, hact, hbx, hblk⟩, has, hfb⟩ := hA
    subst hact
    rw [htm]
    have lo := si.lo
    have sz := si.sz
    have hMT : ∀ k, T.M b k → k = b ∨ (w.heap.size + 3 ≤ k ∧ k < n1) := by
      rintro k (hk | hk)
      · exact Or.inl hk
      · exact Or.inr (hrow k hk)
    cases x with
    | tok k t lx cx =>
      obtain ⟨v, v1, v2, v3⟩ := si.row
      have hvr := row v
      obtain ⟨x0, x1, x2, x3⟩ : W.cell? ⟨bx, 0, none⟩ = some (.int .i8 k) ∧ W.cell? ⟨bx, 1, none⟩ = some (.string t) ∧ W.cell? ⟨bx, 2, none⟩ = some (.int .i64 lx) ∧ W.cell? ⟨bx, 3, none⟩ = some (.int .i64 cx) := by
        refine ⟨?_, ?_, ?_, ?_⟩ <;> simp [World.cell?, hblk, El.cells]
      have f2 := si.f2
      have n1' : Hid (pre.length + 1 ≤ maxLen) := (show pre.length + 1 ≤ maxLen by have := hok.few; unfold maxLen; omega)
      have n2' : Hid ((pre.length + 1) * 40 ≤ 140737488355328) := (show (pre.length + 1) * 40 ≤ 140737488355328 by have := hok.few; omega)
      have HH := hide' (And.intro si (And.intro row (And.intro v2 v3)))
      have Hz := hide' (And.intro hz0 (And.intro hz1 (And.intro hz2 hi)))
      clear si row v2 v3 hvr has hfb hblk hrec
      simp only [El.err, El.agg, El.cells]
      gi_wp2_with (gi_at_builtin; refine appendIn _ rfl _ _ 40 rfl (n1 + 2) 44 i0 _ 4 40 Tryz.underlying40 hi hz0 hz1 hz2 rfl (by decide) _ _ _ rfl (HH.out.2.2.1.alloc _) ⟨W.heap.size, 0, none⟩ 1 1 [.int .i8 k, .string t, .int .i64 lx, .int .i64 cx] rfl rfl (four_new _ _ _ _ _ _) (by simp [Value.oneCell']) (by decide) n1'.out n2'.out (by simp; omega) ?_; intro g cap w3 hrow3 hgrow3 hat3; have P3 := HH.out.1.app hb2 hMT ⟨n0.2, n0.1⟩ v1 HH.out.2.2.1 (fun g hg => ⟨HH.out.2.2.2 g hg, HH.out.2.1 v g v1 hg⟩) _ (.tok k t lx cx) rfl g cap w3 hrow3 hgrow3 hat3; have y1 := P3.1.1; have y2 := P3.1.2; have PP := hide' P3.2; clear P3 hrow3 hgrow3 hat3)
      exact ⟨by rw [hn1]; exact PP.out.1, PP.out.2.1, PP.out.2.2⟩
    | flt fb code lx cx word =>
      have r0 := si.r0
      have r1 := si.r1
      have f0 := si.f0
      have f1 := si.f1
      have HH := hide' (And.intro si (And.intro has (hfb _ _ _ _ _ rfl)))
      obtain ⟨rc, hrc⟩ := hrec
      have Hrec := hide' hrc
      clear si row has hfb hrc
      simp only [El.err, El.agg, El.cells]
      gi_wp2
      have hset : ∀ k, k ≠ w.heap.size → k ≠ w.heap.size + 1 → ((W.setCell ⟨w.heap.size, 0, none⟩ (.slice none 0 0)).setCell ⟨w.heap.size + 1, 0, none⟩ (.iface 72 (.pointer (some ⟨fb, 0, none⟩)))).heap[k]? = W.heap[k]? := fun k h1 h2 => (Below.heap_setCell _ _ _ _ h2).trans (Below.heap_setCell _ _ _ _ h1)
      have hh := HH.out.2.1
      refine ⟨fun k hk => hset k (by omega) (by omega), rfl, ⟨pre, fb, code, lx, cx, word, rfl, ?_, (hset fb (by have := hh.2; omega) (by have := hh.2; omega)).trans hh.1, HH.out.2.2.1, HH.out.2.2.2⟩, ?_, ?_, lo⟩
      · go_simp
      · go_simp
      · exact (HH.out.1.bel.setCell (p := ⟨w.heap.size, 0, none⟩) (Nat.le_refl _) _).setCell (p := ⟨w.heap.size + 1, 0, none⟩) (by simp) _
  case done =>
    intro b xs W hb hS hI hD
    obtain ⟨v, v1, v2, v3⟩ := hI.row
    have r0 := hI.r0
    have r1 := hI.r1
    have f0 := hI.f0
    have f1 := hI.f1
    have lo := hI.lo
    obtain ⟨ao, cp, rfl⟩ : ∃ ao cp, v = .slice ao xs.length cp := by
      rcases v2.2 with ⟨q1, q2⟩ | ⟨g, cap, cur, q1, _⟩
      · exact ⟨none, 0, by rw [q1, q2]⟩
      · exact ⟨_, _, q1⟩
    have HI := hide' (And.intro hI (And.intro hD (And.intro hS (And.intro v2 v3))))
    clear hI hD hS v2 v3
    go_wp2
    obtain ⟨W', hW'⟩ : ∃ W', (W.setCell ⟨w.heap.size, 0, none⟩ (.slice ao xs.length cp)).setCell ⟨w.heap.size + 1, 0, none⟩ .nilIface = W' := ⟨_, rfl⟩
    have t1 : Turn (fun k => k = w.heap.size ∨ k = w.heap.size + 1) W W' := by
      rw [← hW']
      exact ((Turn.refl (fun k => k = w.heap.size ∨ k = w.heap.size + 1) W).setCell (p := ⟨w.heap.size, 0, none⟩) (fun _ => Or.inl rfl) _).setCell (p := ⟨w.heap.size + 1, 0, none⟩) (fun _ => Or.inr rfl) _
    have y0 : W'.cell? ⟨w.heap.size, 0, none⟩ = some (.slice ao xs.length cp) := by rw [← hW']; clear hW' t1; go_simp
    have y1 : W'.cell? ⟨w.heap.size + 1, 0, none⟩ = some .nilIface := by rw [← hW']; clear hW' t1 y0; go_simp
    have hsz := HI.out.1.sz
    have hD' : W'.heap[w1.heap.size]? = some (.deferred (some [])) := (t1.block _ (by omega) (by omega)).trans HI.out.2.1
    rw [hW']
    refine ⟨by simp, .inl ⟨_, _, rfl, run_takeDeferred hD', ?_⟩⟩
    have t2 : Turn (fun k => k = w1.heap.size) W' (W'.putObj w1.heap.size (.deferred none)) := turn_putObj _ _ _
    have z0 := (t2.cell (p := ⟨w.heap.size, 0, none⟩) (lt_of_cell y0) (by simp; omega)).trans y0
    have z1 := (t2.cell (p := ⟨w.heap.size + 1, 0, none⟩) (lt_of_cell y1) (by simp; omega)).trans y1
    refine ⟨.tuple #[.slice ao xs.length cp, .nilIface], ?_, T, _, hTs, hTC, hok, rfl, Or.inl ⟨xs, _, HI.out.2.2.1, HI.out.1.all, rfl, ?_⟩, ?_⟩
    · simp [results, Tryz.f26, go_sem, z0, z1]
    · have q1 := t1.row HI.out.2.2.2.1 (fun g hg => by have := (HI.out.2.2.2.1.lt g hg).1; omega)
      have q2 := t2.row q1 (fun g hg => by have := (q1.lt g hg).1; omega)
      obtain ⟨e1, e2⟩ := q2
      refine ⟨e1, ?_⟩
      rcases e2 with e2 | ⟨g, cap, cur, e3, e4, e5⟩
      · exact Or.inl e2
      · exact Or.inr ⟨g, cap, cur, e3, by omega, e5⟩
    · exact (HI.out.1.bel.trans (t1.below (fun k q => by omega) HI.out.1.bel.size)).trans (t2.below (fun k q => by omega) (by have := HI.out.1.bel.size; have := t1.size; omega))
  case stop =>
    intro c pre W hSp hX hD
    have hc := hX.c
    subst hc
    refine wpIn_wide.2 ?_
    go_wp2
    obtain ⟨pre', fb, code, l, cx, word, h1, h2, h3, h4, h5⟩ := hX.last
    have lo := hX.lo
    have y0 := hX.r0
    refine ⟨by simp, .inl ⟨_, _, rfl, run_takeDeferred hD, ?_⟩⟩
    have t2 : Turn (fun k => k = w1.heap.size) W (W.putObj w1.heap.size (.deferred none)) := turn_putObj _ _ _
    have z0 := (t2.cell (p := ⟨w.heap.size, 0, none⟩) (lt_of_cell y0) (by simp; omega)).trans y0
    have z1 := (t2.cell (p := ⟨w.heap.size + 1, 0, none⟩) (lt_of_cell h2) (by simp; omega)).trans h2
    have hne : ¬ fb = w1.heap.size := fun e => by
      unfold Flt at h3
      rw [e, hD] at h3; cases h3
    refine ⟨.tuple #[.slice none 0 0, .iface 72 (.pointer (some ⟨fb, 0, none⟩))], ?_, T, _, hTs, hTC, hok, rfl, Or.inr ⟨pre', fb, code, l, cx, word, h1 ▸ hSp, rfl, h5, (t2.block fb (Array.getElem?_eq_some_iff.1 h3).1 hne).trans h3⟩, ?_⟩
    · simp [results, Tryz.f26, go_sem, z0, z1]
    · exact hX.bel.trans (t2.below (fun k q => by omega) hX.bel.size)
end Go.Proofs.YtppcofopnelgjaaGreatDoor
