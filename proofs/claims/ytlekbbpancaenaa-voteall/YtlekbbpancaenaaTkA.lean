/- Members that talk, in memory: votes under way in a row; the members' cases, what they were told. -/
import Derived.Test.YtlekbbpancaenaaVtX
import Derived.Test.YtlekbbpancaenaaBrA
namespace Go.Proofs.Ytlekbbpancaenaa
open Go.RowKit Go.Shelf

/-- A vote under way: four cells. -/
def undC (u : Vt.Und) : List Value := [.int .u8 (u.to : Int), .int .u8 (u.who : Int), .int .i64 u.kind, .string u.body]
def wayC (l : List Vt.Und) : List Value := l.flatMap undC
theorem wayC_app (l m : List Vt.Und) : wayC (l ++ m) = wayC l ++ wayC m := by unfold wayC; exact List.flatMap_append
theorem wayC_len (l : List Vt.Und) : (wayC l).length = l.length * 4 := by
  induction l with
  | nil => rfl
  | cons a l ih => show (undC a ++ wayC l).length = _; rw [List.length_append, ih, List.length_cons]; show 4 + _ = _; omega
theorem wayC_one (l : List Vt.Und) : ∀ u ∈ wayC l, u.oneCell' = true := by
  intro u hu
  obtain ⟨x, _, hx⟩ := List.mem_flatMap.1 hu
  simp only [undC, List.mem_cons, List.not_mem_nil, or_false] at hx
  rcases hx with rfl | rfl | rfl | rfl <;> rfl
theorem wayC_get {l : List Vt.Und} : ∀ {j : Nat} {u : Vt.Und}, l[j]? = some u → (wayC l)[j * 4]? = some (.int .u8 (u.to : Int)) ∧ (wayC l)[j * 4 + 1]? = some (.int .u8 (u.who : Int)) ∧ (wayC l)[j * 4 + 2]? = some (.int .i64 u.kind) ∧ (wayC l)[j * 4 + 3]? = some (.string u.body) := by
  induction l with
  | nil => intro j u h; simp at h
  | cons a l ih =>
    intro j u h
    cases j with
    | zero => simp at h; subst h; exact ⟨rfl, rfl, rfl, rfl⟩
    | succ j =>
      have := ih (j := j) (u := u) (by simpa using h)
      have e : ∀ k, (wayC (a :: l))[(j + 1) * 4 + k]? = (wayC l)[j * 4 + k]? := fun k => by
        show (undC a ++ wayC l)[(j + 1) * 4 + k]? = _
        rw [List.getElem?_append_right (by show 4 ≤ _; omega)]
        congr 1
        show (j + 1) * 4 + k - 4 = _
        omega
      exact ⟨(e 0).trans this.1, (e 1).trans this.2.1, (e 2).trans this.2.2.1, (e 3).trans this.2.2.2⟩
theorem info69 : (Try.prog.info? 69).map (fun i => (i.zero, i.size, i.bytes)) = some (some (.agg #[.int .u8 0, .int .u8 0, .int .i64 0, .string ⟨#[]⟩]), 4, 32) := by kernel_rfl

/-- A row that is the talk's own, of which a slice is a stretch. -/
def WRow (w : World) (B : Nat) (v : Value) (n : Nat) (xs : List Value) : Prop :=
  xs.length = n * 4 ∧ ((v = .slice none 0 0 ∧ n = 0) ∨ ∃ g o cap cur, v = .slice (some ⟨g, o, none⟩) n cap ∧ B ≤ g ∧ w.heap[g]? = some (.cells cur 69 (0, 0)) ∧ n ≤ cap ∧ cap ≤ maxLen ∧ o + cap * 4 ≤ cur.size ∧ (cur.toList.drop o).take (n * 4) = xs)
theorem WRow.nil (w : World) (B : Nat) : WRow w B (.slice none 0 0) 0 [] := ⟨rfl, .inl ⟨rfl, rfl⟩⟩
theorem WRow.lt {w : World} {B n : Nat} {v : Value} {xs : List Value} (h : WRow w B v n xs) : ∀ k, v.ownBlock = some k → B ≤ k ∧ k < w.heap.size := by
  intro k hk
  rcases h.2 with ⟨rfl, _⟩ | ⟨g, o, cap, cur, rfl, hb, hg, _⟩
  · cases hk
  · obtain rfl := Option.some.inj hk
    exact ⟨hb, (Array.getElem?_eq_some_iff.1 hg).1⟩
theorem WRow.kept {w w' : World} {B n : Nat} {v : Value} {xs : List Value} (h : WRow w B v n xs) (hg : ∀ k, v.ownBlock = some k → w'.heap[k]? = w.heap[k]?) : WRow w' B v n xs := by
  refine ⟨h.1, ?_⟩
  rcases h.2 with h0 | ⟨g, o, cap, cur, rfl, hb, h1, r⟩
  · exact .inl h0
  · exact .inr ⟨g, o, cap, cur, rfl, hb, (hg g rfl).trans h1, r⟩
theorem WRow.later {w w' : World} {B n : Nat} {v : Value} {xs : List Value} (h : WRow w B v n xs) (hb : Below w.heap.size w w') : WRow w' B v n xs := h.kept fun k hk => hb.block k (h.lt k hk).2
theorem WRow.form {w : World} {B n : Nat} {v : Value} {xs : List Value} (h : WRow w B v n xs) (hn : 0 < n) : ∃ g o cap, v = .slice (some ⟨g, o, none⟩) n cap ∧ n ≤ cap ∧ ∀ j u, xs[j]? = some u → w.cell? ⟨g, o + j, none⟩ = some u := by
  rcases h.2 with ⟨_, h0⟩ | ⟨g, o, cap, cur, rfl, hb, hg, h1, h2, h3, h4⟩
  · omega
  · refine ⟨g, o, cap, rfl, h1, fun j u hu => ?_⟩
    rw [← h4] at hu
    have hj := (List.getElem?_eq_some_iff.1 hu).1
    rw [List.length_take] at hj
    rw [List.getElem?_take, if_pos (by omega), List.getElem?_drop] at hu
    rw [cell_of_row w g (o + j) cur 69 _ hg, ← Array.getElem?_toList]
    exact hu
theorem add_cell (g o j : Nat) : (⟨g, o, none⟩ : Addr).add j = ⟨g, o + j, none⟩ := by
  cases j with
  | zero => simp [Addr.add]
  | succ j => simp [Addr.add]
/-- Room: votes stored behind the others. -/
theorem run_append_room_o {w : World} {g o n cap m c g0 o0 : Nat} {cur : Array Value} {news : List Value} (ty : TypeId) (i0 : TypeInfo) (hi : Try.prog.info? 69 = some i0) (hsz : i0.size = 4) (hg : w.heap[g]? = some (.cells cur 69 (0, 0))) (hl : news.length = m * 4) (hnews : ∀ j u, news[j]? = some u → w.cell? ((⟨g0, o0, none⟩ : Addr).add j) = some u) (h1 : ∀ u ∈ news, u.oneCell' = true)
    (hroom : n + m ≤ cap) (hfit : o + n * 4 + news.length ≤ cur.size) :
    (Builtin.append_ #[65, 65] ty #[.slice (some ⟨g, o, none⟩) n cap, .slice (some ⟨g0, o0, none⟩) m c]).run Try.prog w = .ok (.slice (some ⟨g, o, none⟩) (n + m) cap) (w.setRow g (cur.toList.take (o + n * 4) ++ news ++ cur.toList.drop (o + n * 4 + news.length)).toArray) := by
  have hf := run_firstCells_some (P := Try.prog) w i0.size m ⟨g0, o0, none⟩ m c news (by rw [hsz]; exact hl) hnews
  have hst := run_storeCells_at Try.prog g (o + n * i0.size) 69 news 0 cur w hg (by rw [hsz]; simpa using hfit) h1
  simp only [Nat.add_zero] at hst
  rw [hsz] at hst hf
  have ha : (⟨g, o, none⟩ : Addr).add (n * 4) = ⟨g, o + n * 4, none⟩ := add_cell g o (n * 4)
  simp [Builtin.append_, run_underlying Try.underlying65, sizeOf, typeInfo, hi, hsz, Builtin.lenOf, hroom, hf, ha, hst]
/-- Votes appended to the row. -/
theorem run_append_w {w : World} {B n m c g0 o0 : Nat} {v : Value} {xs news : List Value} (ty : TypeId) (i0 : TypeInfo) (hi : Try.prog.info? 69 = some i0 ∧ i0.zero = some (.agg #[.int .u8 0, .int .u8 0, .int .i64 0, .string ⟨#[]⟩]) ∧ i0.size = 4 ∧ i0.bytes = 32)
    (ho : WRow w B v n xs) (hl : news.length = m * 4) (hnews : ∀ j u, news[j]? = some u → w.cell? ⟨g0, o0 + j, none⟩ = some u) (h1 : ∀ u ∈ news, u.oneCell' = true) (hm : 0 < m) (hn : n + m ≤ 100000) (hB : B ≤ w.heap.size) :
    ∃ v' w', (Builtin.append_ #[65, 65] ty #[v, .slice (some ⟨g0, o0, none⟩) m c]).run Try.prog w = .ok v' w' ∧ WRow w' B v' (n + m) (xs ++ news) ∧ w.grownBy w' v.ownBlock ∧ (v'.ownBlock = v.ownBlock ∨ v'.ownBlock = some w.heap.size) := by
  obtain ⟨hi1, hz, hs, hby⟩ := hi
  have hnews' : ∀ j u, news[j]? = some u → w.cell? ((⟨g0, o0, none⟩ : Addr).add j) = some u := fun j u hu => by rw [add_cell]; exact hnews j u hu
  have hlen : (xs ++ news).length = (n + m) * 4 := by rw [List.length_append, ho.1, hl]; omega
  have h63 : n + m ≤ maxLen := by unfold maxLen; omega
  have grown : ∀ (old : Nat), old < n + m → ∀ (row : Option Nat),
      WRow (w.drew.alloc (.cells (xs.toArray ++ news.toArray ++ Builtin.zeroCells (Value.cells (.agg #[.int .u8 0, .int .u8 0, .int .i64 0, .string ⟨#[]⟩])) (grownCap w (n + m) old 69 - (n + m))) 69)) B
        (.slice (some ⟨w.heap.size, 0, none⟩) (n + m) (grownCap w (n + m) old 69)) (n + m) (xs ++ news) ∧
      w.grownBy (w.drew.alloc (.cells (xs.toArray ++ news.toArray ++ Builtin.zeroCells (Value.cells (.agg #[.int .u8 0, .int .u8 0, .int .i64 0, .string ⟨#[]⟩])) (grownCap w (n + m) old 69 - (n + m))) 69)) row := by
    intro old ho' row
    have hge := grownCap_ge w (n + m) old 69
    have hcm : grownCap w (n + m) old 69 ≤ maxLen := grownCap_le_maxLen w (n + m) old 69 h63
    have hzs : (Value.cells (.agg #[.int .u8 0, .int .u8 0, .int .i64 0, .string ⟨#[]⟩])).size = 4 := rfl
    refine ⟨⟨hlen, .inr ⟨w.heap.size, 0, _, _, rfl, hB, heap_alloc_new w.drew _, hge, hcm, ?_, ?_⟩⟩, ⟨rfl, rfl, rfl, by simp, fun k hk _ => heap_alloc_old w.drew _ hk⟩⟩
    · simp only [Array.size_append, List.size_toArray, size_zeroCells, hzs, ho.1, hl]
      omega
    · rw [List.drop_zero]
      simp only [Array.toList_append, List.append_assoc]
      rw [← List.append_assoc, ← hlen]
      exact List.take_left
  rcases ho.2 with ⟨rfl, rfl⟩ | ⟨g, o, cap, cur, rfl, hbg, hg, hnc, hcm, hcs, htake⟩
  · have hx : xs = [] := List.eq_nil_of_length_eq_zero (by simpa using ho.1)
    subst hx
    have hr := run_append_nil (P := Try.prog) w 65 ty 69 i0 _ Try.underlying65 hi1 hz ⟨g0, o0, none⟩ m c news (by rw [hs]; exact hl) hnews' hm (by omega) (by rw [hby]; omega)
    have hgr := grown 0 (by omega) (Value.ownBlock (.slice none 0 0))
    simp only [Nat.zero_add, List.nil_append, Array.empty_append] at hgr ⊢
    exact ⟨_, _, hr, hgr.1, hgr.2, Or.inr rfl⟩
  · by_cases hroom : n + m ≤ cap
    · have hfit : o + n * 4 + news.length ≤ cur.size := by rw [hl]; omega
      have hr := run_append_room_o (c := c) ty i0 hi1 hs hg hl hnews' h1 hroom hfit
      refine ⟨_, _, hr, ⟨hlen, .inr ⟨g, o, cap, _, rfl, hbg, setRow_heap w g cur _ 69 _ hg, hroom, hcm, ?_, ?_⟩⟩, ⟨rfl, rfl, rfl, by simp, fun k _ hk => setRow_other w g k _ (fun e => hk (by simp [Value.ownBlock, e]))⟩, Or.inl rfl⟩
      · simp only [List.size_toArray, List.length_append, List.length_take, List.length_drop, Array.length_toList]
        omega
      · show (((cur.toList.take (o + n * 4) ++ news ++ cur.toList.drop (o + n * 4 + news.length))).drop o).take ((n + m) * 4) = xs ++ news
        rw [List.append_assoc, List.drop_append_of_le_length (by rw [List.length_take, Array.length_toList]; omega), List.drop_take, ← List.append_assoc]
        have e1 : o + n * 4 - o = n * 4 := by omega
        rw [e1, htake, ← hlen]
        exact List.take_left
    · have holds : ∀ j u, xs[j]? = some u → w.cell? ((⟨g, o, none⟩ : Addr).add j) = some u := fun j u hu => by
        rw [add_cell]
        obtain ⟨g', o', cap', e, _, hc⟩ := ho.form (by
          rcases Nat.eq_zero_or_pos n with h0 | h0
          · subst h0
            have : xs = [] := List.eq_nil_of_length_eq_zero (by simpa using ho.1)
            rw [this] at hu; cases hu
          · exact h0)
        have e' := Addr.mk.inj (Option.some.inj (Value.slice.inj e).1)
        obtain ⟨rfl, rfl, _⟩ := e'
        exact hc j u hu
      have hr := run_append_grow (P := Try.prog) w 65 ty 69 i0 _ Try.underlying65 hi1 hz ⟨g, o, none⟩ n cap xs (by rw [hs]; exact ho.1) holds ⟨g0, o0, none⟩ m c news (by rw [hs]; exact hl) hnews' (by omega) (by omega) (growslice_fits (by omega) (by rw [hby]; omega))
      have hgr := grown cap (by omega) (Value.ownBlock (.slice (some ⟨g, o, none⟩) n cap))
      exact ⟨_, _, hr, hgr.1, hgr.2, Or.inr rfl⟩
/-- The same, with the new slice written out. -/
theorem run_append_ws {w : World} {B n m c g0 o0 : Nat} {v : Value} {xs news : List Value} (ty : TypeId) (i0 : TypeInfo) (hi : Try.prog.info? 69 = some i0 ∧ i0.zero = some (.agg #[.int .u8 0, .int .u8 0, .int .i64 0, .string ⟨#[]⟩]) ∧ i0.size = 4 ∧ i0.bytes = 32)
    (ho : WRow w B v n xs) (hl : news.length = m * 4) (hnews : ∀ j u, news[j]? = some u → w.cell? ⟨g0, o0 + j, none⟩ = some u) (h1 : ∀ u ∈ news, u.oneCell' = true) (hm : 0 < m) (hn : n + m ≤ 100000) (hB : B ≤ w.heap.size) (N : Nat) (hN : n + m = N) (H : Nat) (hH : w.heap.size = H) :
    ∃ g o cap w', (Builtin.append_ #[65, 65] ty #[v, .slice (some ⟨g0, o0, none⟩) m c]).run Try.prog w = .ok (.slice (some ⟨g, o, none⟩) N cap) w' ∧ WRow w' B (.slice (some ⟨g, o, none⟩) N cap) N (xs ++ news) ∧ w.grownBy w' v.ownBlock ∧ (v.ownBlock = some g ∨ g = H) := by
  obtain ⟨v', w', hr, h2, h3, h4⟩ := run_append_w (c := c) ty i0 hi ho hl hnews h1 hm hn hB
  rw [hN] at h2
  obtain ⟨g, o, cap, rfl, _⟩ := h2.form (by omega)
  refine ⟨g, o, cap, w', hr, h2, h3, ?_⟩
  rcases h4 with e | e
  · exact .inl e.symm
  · exact .inr (by have := Option.some.inj e; rw [← hH]; exact this)
theorem wpList_append_w {w : World} {ops : Array Oper} {rest : List Oper} {o : Oper} {a : Act} {Q : Exit → Act → World → Prop} (hgd : o.guard = none) (s x : Operand)
    (hop : o.op = .call { callee := .builtin .append, args := #[s, x], argTypes := #[65, 65] }) {B n m c g0 o0 : Nat} {v : Value} {xs news : List Value} (i0 : TypeInfo) (hi : Try.prog.info? 69 = some i0 ∧ i0.zero = some (.agg #[.int .u8 0, .int .u8 0, .int .i64 0, .string ⟨#[]⟩]) ∧ i0.size = 4 ∧ i0.bytes = 32)
    (hs : a.eval s = v) (hx : a.eval x = .slice (some ⟨g0, o0, none⟩) m c) (ho : WRow w B v n xs) (hl : news.length = m * 4) (hnews : ∀ j u, news[j]? = some u → w.cell? ⟨g0, o0 + j, none⟩ = some u) (h1 : ∀ u ∈ news, u.oneCell' = true) (hm : 0 < m) (hn : n + m ≤ 100000) (hB : B ≤ w.heap.size) (N : Nat) (hN : n + m = N) (H : Nat) (hH : w.heap.size = H)
    (h : ∀ g o' cap w', WRow w' B (.slice (some ⟨g, o', none⟩) N cap) N (xs ++ news) → w.grownBy w' v.ownBlock → (v.ownBlock = some g ∨ g = H) → wpList Try.prog ops Q rest (a.put o.dst (.slice (some ⟨g, o', none⟩) N cap)) w') : wpList Try.prog ops Q (o :: rest) a w := by
  refine wpList_plain hgd fun K hK => ?_
  obtain ⟨g, o', cap, w', hr, h2, h3, h4⟩ := run_append_ws (c := c) o.type i0 hi ho hl hnews h1 hm hn hB N hN H hH
  unfold Oper.wp execOp
  simp only [hop, resolve, invoke, builtin, Sem.run_bind, Sem.run_pure, Result.andThen_ok, List.map_toArray, List.map_cons, List.map_nil, hs, hx, hr]
  exact hK _ _ (h g o' cap w' h2 h3 h4)

/-- The talk in memory. -/
structure Talk (w0 w : World) (n f frm : Nat) (s : Vt.Tk) (cb sb db : Nat) (vw : Value) (a1 a2 : Nat → Option Addr) (k1 k2 : Nat → Nat) : Prop where
  p0 : w.cell? ⟨w0.heap.size, 0, none⟩ = some (.int .i64 (n : Int))
  p1 : w.cell? ⟨w0.heap.size, 1, none⟩ = some (.int .i64 (f : Int))
  p2 : w.cell? ⟨w0.heap.size, 2, none⟩ = some (.int .u8 (frm : Int))
  p3 : w.cell? ⟨w0.heap.size, 3, none⟩ = some (.slice (some ⟨cb, 0, none⟩) n n)
  p4 : w.cell? ⟨w0.heap.size, 4, none⟩ = some (.slice (some ⟨sb, 0, none⟩) n n)
  p5 : w.cell? ⟨w0.heap.size, 5, none⟩ = some (.slice (some ⟨db, 0, none⟩) n n)
  p6 : w.cell? ⟨w0.heap.size, 6, none⟩ = some vw
  pz : ∀ j, w.frozen? ⟨w0.heap.size, j, none⟩ = false
  c : ∀ i, i < n → w.cell? ⟨cb, i * 5, none⟩ = some (.bool (s.cs i).echoed) ∧ w.cell? ⟨cb, i * 5 + 1, none⟩ = some (.bool (s.cs i).readied) ∧ w.cell? ⟨cb, i * 5 + 2, none⟩ = some (.bool (s.cs i).done) ∧ w.cell? ⟨cb, i * 5 + 3, none⟩ = some (.slice (a1 i) (s.cs i).echoes.length (k1 i)) ∧ w.cell? ⟨cb, i * 5 + 4, none⟩ = some (.slice (a2 i) (s.cs i).readies.length (k2 i))
  cz : ∀ j, w.frozen? ⟨cb, j, none⟩ = false
  t : ∀ i, i < n → w.cell? ⟨sb, i, none⟩ = some (.string (s.told i))
  tz : ∀ j, w.frozen? ⟨sb, j, none⟩ = false
  d : ∀ i, i < n → w.cell? ⟨db, i, none⟩ = some (.bool (s.done i))
  dz : ∀ j, w.frozen? ⟨db, j, none⟩ = false
  l1 : ∀ i, i < n → Vt.At w (a1 i) (s.cs i).echoes
  l2 : ∀ i, i < n → Vt.At w (a2 i) (s.cs i).readies
  small : ∀ i, i < n → (s.cs i).Small
  ord : w0.heap.size < cb ∧ cb < sb ∧ sb < db ∧ db < w.heap.size
  way : WRow w (db + 1) vw s.way.length (wayC s.way)
  off : ∀ i, i < n → ∀ b, b ≤ db → Off b (a1 i) (s.cs i).echoes ∧ Off b (a2 i) (s.cs i).readies
  offw : ∀ i, i < n → ∀ g, vw.ownBlock = some g → Off g (a1 i) (s.cs i).echoes ∧ Off g (a2 i) (s.cs i).readies
  below : Below w0.heap.size w0 w
/-- A talk stays where the blocks that it knows stay, but for its own pointer's. -/
theorem Talk.later {w0 w w' : World} {n f frm : Nat} {s : Vt.Tk} {cb sb db : Nat} {vw : Value} {a1 a2 : Nat → Option Addr} {k1 k2 : Nat → Nat} (h : Talk w0 w n f frm s cb sb db vw a1 a2 k1 k2) (hb : Below w.heap.size w w') : Talk w0 w' n f frm s cb sb db vw a1 a2 k1 k2 := by
  obtain ⟨o1, o2, o3, o4⟩ := h.ord
  have fz : ∀ b j, b < w.heap.size → w'.frozen? ⟨b, j, none⟩ = w.frozen? ⟨b, j, none⟩ := fun b j hlt => World.frozen?_of_block (hb.block b hlt)
  exact ⟨cell_later hb h.p0, cell_later hb h.p1, cell_later hb h.p2, cell_later hb h.p3, cell_later hb h.p4, cell_later hb h.p5, cell_later hb h.p6, fun j => (fz _ j (by omega)).trans (h.pz j),
    fun i hi => ⟨cell_later hb (h.c i hi).1, cell_later hb (h.c i hi).2.1, cell_later hb (h.c i hi).2.2.1, cell_later hb (h.c i hi).2.2.2.1, cell_later hb (h.c i hi).2.2.2.2⟩, fun j => (fz _ j (by omega)).trans (h.cz j),
    fun i hi => cell_later hb (h.t i hi), fun j => (fz _ j (by omega)).trans (h.tz j), fun i hi => cell_later hb (h.d i hi), fun j => (fz _ j (by omega)).trans (h.dz j),
    fun i hi => (h.l1 i hi).later hb, fun i hi => (h.l2 i hi).later hb, h.small, ⟨o1, o2, o3, Nat.lt_of_lt_of_le o4 hb.size⟩, h.way.later hb, h.off, h.offw, below_step h.below hb⟩
/-- What cast changes. -/
theorem Talk.cast {w0 w wa w1 : World} {n f frm : Nat} {s : Vt.Tk} {cb sb db : Nat} {vw v' : Value} {a1 a2 : Nat → Option Addr} {k1 k2 : Nat → Nat} {l : List Vt.Und} (h : Talk w0 w n f frm s cb sb db vw a1 a2 k1 k2) (ha : Below w.heap.size w wa)
    (hw : WRow w1 (db + 1) v' l.length (wayC l)) (hg : wa.grownBy w1 vw.ownBlock) (hv : v'.ownBlock = vw.ownBlock ∨ v'.ownBlock = some wa.heap.size) :
    Talk w0 (w1.setCell ⟨w0.heap.size, 6, none⟩ v') n f frm { s with way := l } cb sb db v' a1 a2 k1 k2 := by
  have H := h.later ha
  obtain ⟨o1, o2, o3, o4⟩ := H.ord
  have hlt := H.way.lt
  have hp : ∀ b, b ≤ db → some b ≠ vw.ownBlock := fun b hb e => by have := (hlt b e.symm).1; omega
  have bk : ∀ b, b ≤ db → b ≠ w0.heap.size → (w1.setCell ⟨w0.heap.size, 6, none⟩ v').heap[b]? = wa.heap[b]? := fun b hb hne => (row_far hne v').trans (hg.block b (by omega) (hp b hb))
  have ce : ∀ b o, b ≤ db → b ≠ w0.heap.size → (w1.setCell ⟨w0.heap.size, 6, none⟩ v').cell? ⟨b, o, none⟩ = wa.cell? ⟨b, o, none⟩ := fun b o hb hne => World.cell?_of_block (bk b hb hne)
  have fe : ∀ b o, b ≤ db → (w1.setCell ⟨w0.heap.size, 6, none⟩ v').frozen? ⟨b, o, none⟩ = wa.frozen? ⟨b, o, none⟩ := fun b o hb => by
    rw [World.frozen?_setCell]; exact World.frozen?_of_block (hg.block b (by omega) (hp b hb))
  have pe : ∀ o, w1.cell? ⟨w0.heap.size, o, none⟩ = wa.cell? ⟨w0.heap.size, o, none⟩ := fun o => World.cell?_of_block (hg.block w0.heap.size (by omega) (hp w0.heap.size (by omega)))
  have pq : ∀ o, o ≠ 6 → (w1.setCell ⟨w0.heap.size, 6, none⟩ v').cell? ⟨w0.heap.size, o, none⟩ = wa.cell? ⟨w0.heap.size, o, none⟩ := fun o ho => by
    rw [World.cell?_setCell_other _ _ _ _ (fun e => ho (by have := (Addr.mk.inj e).2.1; omega))]; exact pe o
  have la : ∀ a (x : Vt.Bal), Vt.At wa a x → (∀ g, vw.ownBlock = some g → Off g a x) → Off w0.heap.size a x → Vt.At (w1.setCell ⟨w0.heap.size, 6, none⟩ v') a x := fun a x hat hw hp => by
    have h1 : Vt.At w1 a x := by
      rcases hat with rfl | ⟨g, off, rfl, hc⟩
      · exact .inl rfl
      · cases x with
        | nil => exact .inl rfl
        | cons y x =>
          refine .inr ⟨g, off, rfl, fun j u hu => ?_⟩
          have hgl := Vt.At.block hc
          have hne : some g ≠ vw.ownBlock := fun e => by
            rcases hw g e.symm ⟨g, off, none⟩ rfl with q | q
            · exact q rfl
            · cases q
          exact (World.cell?_of_block (hg.block g hgl hne)).trans (hc j u hu)
    exact at_block h1 hp fun _ hne => row_far hne v'
  refine ⟨(pq 0 (by decide)).trans H.p0, (pq 1 (by decide)).trans H.p1, (pq 2 (by decide)).trans H.p2, (pq 3 (by decide)).trans H.p3, (pq 4 (by decide)).trans H.p4, (pq 5 (by decide)).trans H.p5, World.cell?_setCell_same _ _ _ ((pe 6).trans H.p6), fun j => (fe w0.heap.size j (by omega)).trans (H.pz j),
    fun i hi => ⟨(ce cb _ (by omega) (by omega)).trans (H.c i hi).1, (ce cb _ (by omega) (by omega)).trans (H.c i hi).2.1, (ce cb _ (by omega) (by omega)).trans (H.c i hi).2.2.1, (ce cb _ (by omega) (by omega)).trans (H.c i hi).2.2.2.1, (ce cb _ (by omega) (by omega)).trans (H.c i hi).2.2.2.2⟩, fun j => (fe cb j (by omega)).trans (H.cz j),
    fun i hi => (ce sb _ (by omega) (by omega)).trans (H.t i hi), fun j => (fe sb j (by omega)).trans (H.tz j), fun i hi => (ce db _ (by omega) (by omega)).trans (H.d i hi), fun j => (fe db j (by omega)).trans (H.dz j),
    fun i hi => la _ _ (H.l1 i hi) (fun g hg => (H.offw i hi g hg).1) (H.off i hi w0.heap.size (by omega)).1, fun i hi => la _ _ (H.l2 i hi) (fun g hg => (H.offw i hi g hg).2) (H.off i hi w0.heap.size (by omega)).2, H.small, ⟨o1, o2, o3, ?_⟩, ?_, H.off, ?_, ?_⟩
  · have := hg.size; show db < (w1.setCell ⟨w0.heap.size, 6, none⟩ v').heap.size; simp [World.setCell]; omega
  · refine hw.kept fun k hk => row_far ?_ v'
    have := (hw.lt k hk).1
    omega
  · intro i hi g hg'
    rcases hv with e | e
    · exact H.offw i hi g (by rw [← e]; exact hg')
    · rw [e] at hg'
      obtain rfl := Option.some.inj hg'
      exact ⟨at_off (H.l1 i hi) (Nat.le_refl _), at_off (H.l2 i hi) (Nat.le_refl _)⟩
  · have := H.below.grown hg (by have := H.below.size; omega) (fun j hj => by have := (hlt j hj).1; omega)
    exact this.setCell (p := ⟨w0.heap.size, 6, none⟩) (Nat.le_refl _) _
end Go.Proofs.Ytlekbbpancaenaa
