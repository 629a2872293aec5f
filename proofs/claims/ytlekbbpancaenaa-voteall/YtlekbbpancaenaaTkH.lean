/- Of a talk: one step of a play. -/
import Derived.Test.YtlekbbpancaenaaTkD
import Derived.Test.YtlekbbpancaenaaTkG
import Derived.Deep.RegionLaw
import Derived.Test.YtlekbbpancaenaaTkF
namespace Go.Proofs.Ytlekbbpancaenaa
open Go.RowKit Go.Shelf
set_option linter.unusedVariables false

theorem w64_big {a : Nat} (h : a < 65536) : wrap64 (a : Int) = (a : Int) := by unfold wrap64; omega
theorem w64_sub {n f d : Nat} (h : n ≤ 7) (hf : f < n) (hd : d = n - f) : wrap64 ((n : Int) - (f : Int)) = (d : Int) := by subst hd; unfold wrap64; omega
theorem w64_add {f r t : Nat} (h : f ≤ 7) (hr : r ≤ 7) (ht : t = f + r) : wrap64 ((f : Int) + (r : Int)) = (t : Int) := by subst ht; unfold wrap64; omega
theorem lie_nums {n f d r to who : Nat} (h7 : n ≤ 7) (hfn : f < n) (hd : d = n - f) (hrd : r < d) (hto : to = f + r) (hwf : who < f) : 1 ≤ d ∧ to < n ∧ (0 : Int) ≤ (to : Int) ∧ (to : Int) < 256 ∧ (0 : Int) ≤ (who : Int) ∧ (who : Int) < 256 ∧ f ≤ 7 ∧ r ≤ 7 := by omega
theorem wrap_eq (x : Int) : IntKind.i64.wrap x = wrap64 x := by rw [IntKind.wrap_i64]; unfold wrap64; rfl
theorem w64_isucc {i : Nat} (h : i < 90000) : wrap64 ((i : Int) + 1) = (i : Int) + 1 := by unfold wrap64; omega
theorem wu8 {z : Int} (h0 : 0 ≤ z) (h1 : z < 256) : IntKind.u8.wrap z = z := by rw [IntKind.wrap_u8]; exact Int.emod_eq_of_lt h0 h1
/-- The vote that is taken out, in its box. -/
structure Vst (w V : World) (to who : Nat) (kind : Int) (body : ByteArray) : Prop where
  below : Below w.heap.size w V
  u0 : V.cell? ⟨w.heap.size + 1, 0, none⟩ = some (.int .u8 (to : Int))
  u1 : V.cell? ⟨w.heap.size + 1, 1, none⟩ = some (.int .u8 (who : Int))
  u2 : V.cell? ⟨w.heap.size + 1, 2, none⟩ = some (.int .i64 kind)
  u3 : V.cell? ⟨w.heap.size + 1, 3, none⟩ = some (.string body)
theorem vst_new (w : World) (o : Obj) (q to who : Nat) (kind : Int) (body : ByteArray) : Vst w (((w.alloc o).drewN q).alloc (.cells #[.int .u8 (to : Int), .int .u8 (who : Int), .int .i64 kind, .string body] 69)) to who kind body := by
  have hb : Below w.heap.size w ((w.alloc o).drewN q) := below_drew ((Below.refl _ w).alloc (Nat.le_refl _) o) q
  have sz : ((w.alloc o).drewN q).heap.size = w.heap.size + 1 := by simp
  have g : ∀ j, (((w.alloc o).drewN q).alloc (.cells #[.int .u8 (to : Int), .int .u8 (who : Int), .int .i64 kind, .string body] 69)).cell? ⟨w.heap.size + 1, j, none⟩ = (#[.int .u8 (to : Int), .int .u8 (who : Int), .int .i64 kind, .string body] : Array Value)[j]? := fun j => by
    rw [← sz]; exact World.cell?_alloc_at _ _ _ _ rfl
  exact ⟨hb.alloc hb.size _, g 0, g 1, g 2, g 3⟩
structure Vu (w0 w W : World) (to who : Nat) (kind : Int) (body : ByteArray) : Prop where
  u0 : W.cell? ⟨w.heap.size + 1, 0, none⟩ = some (.int .u8 (to : Int))
  u1 : W.cell? ⟨w.heap.size + 1, 1, none⟩ = some (.int .u8 (who : Int))
  u2 : W.cell? ⟨w.heap.size + 1, 2, none⟩ = some (.int .i64 kind)
  u3 : W.cell? ⟨w.heap.size + 1, 3, none⟩ = some (.string body)
theorem vu_new {w0 w V w1 : World} {to who g : Nat} {kind : Int} {body : ByteArray} {v : Value} (h : Vst w V to who kind body) (hbk : ∀ k, k < V.drew.heap.size → k ≠ g → w1.heap[k]? = V.drew.heap[k]?) (hw : w0.heap.size < w.heap.size) (hg : g < w.heap.size) : Vu w0 w (w1.setCell ⟨w0.heap.size, 6, none⟩ v) to who kind body := by
  have l0 := World.block_lt_of_cell? _ _ h.u0
  dsimp only at l0
  have e : (w1.setCell ⟨w0.heap.size, 6, none⟩ v).heap[w.heap.size + 1]? = V.heap[w.heap.size + 1]? := (row_far (by omega) v).trans (hbk _ l0 (by omega))
  exact ⟨(World.cell?_of_block e).trans h.u0, (World.cell?_of_block e).trans h.u1, (World.cell?_of_block e).trans h.u2, (World.cell?_of_block e).trans h.u3⟩
theorem px_keeps {w0 w w9 : World} {n f frm : Nat} {s s' : Vt.Tk} {cb sb db : Nat} {vw : Value} {a1 a2 : Nat → Option Addr} {k1 k2 : Nat → Nat} {v0 v1 v2 v3 v4 v5 : Value} (h : Talk w0 w n f frm s cb sb db vw a1 a2 k1 k2) (hT : ∃ vw a1 a2 k1 k2, Talk w0 w9 n f frm s' cb sb db vw a1 a2 k1 k2)
    (hk : ∀ k, db < k → k < (w.alloc (.cells #[v0, v1, v2, v3, v4, v5] 58)).drew.heap.size → vw.ownBlock ≠ some k → w9.heap[k]? = (w.alloc (.cells #[v0, v1, v2, v3, v4, v5] 58)).drew.heap[k]?) :
    w9.cell? ⟨w0.heap.size, 0, none⟩ = some (.int .i64 (n : Int)) ∧ w9.cell? ⟨w0.heap.size, 1, none⟩ = some (.int .i64 (f : Int)) ∧ w9.cell? ⟨w.heap.size, 2, none⟩ = some v2 ∧ w9.cell? ⟨w.heap.size, 3, none⟩ = some v3 ∧ w9.cell? ⟨w.heap.size, 4, none⟩ = some v4 ∧ w9.cell? ⟨w.heap.size, 5, none⟩ = some v5 := by
  obtain ⟨vx, x1, x2, y1, y2, T⟩ := hT
  have e : w9.heap[w.heap.size]? = (w.alloc (.cells #[v0, v1, v2, v3, v4, v5] 58)).heap[w.heap.size]? := hk w.heap.size h.ord.2.2.2 (by show w.heap.size < (w.alloc _).heap.size; simp) (fun e => by have := (h.way.lt _ e).2; omega)
  have g : ∀ j, w9.cell? ⟨w.heap.size, j, none⟩ = (#[v0, v1, v2, v3, v4, v5] : Array Value)[j]? := fun j => (World.cell?_of_block e).trans (World.cell?_alloc_at _ _ _ _ rfl)
  exact ⟨T.p0, T.p1, g 2, g 3, g 4, g 5⟩
def StepPost (w0 : World) (n f frm : Nat) (s' : Vt.Tk) (cb sb db : Nat) (e : Ending) (w' : World) : Prop := e = .returned (.bool true) ∧ ∃ vw a1 a2 k1 k2, Talk w0 w' n f frm s' cb sb db vw a1 a2 k1 k2
theorem px_new {w0 w : World} {n f frm : Nat} {s : Vt.Tk} {cb sb db : Nat} {vw : Value} {a1 a2 : Nat → Option Addr} {k1 k2 : Nat → Nat} (h : Talk w0 w n f frm s cb sb db vw a1 a2 k1 k2) (o : Obj) : Talk w0 (w.alloc o) n f frm s cb sb db vw a1 a2 k1 k2 := h.later ((Below.refl _ w).alloc (Nat.le_refl _) o)

set_option maxHeartbeats 8000000 in
set_option maxRecDepth 100000 in
/-- Nobody is corrupt: a lie is none. -/
theorem step_none (w0 : World) (n f frm : Nat) (s : Vt.Tk) (cb sb db : Nat) (vw : Value) (a1 a2 : Nat → Option Addr) (k1 k2 : Nat → Nat) (pa pt pw : Nat) (kind : Int) (body : ByteArray) (w : World) (h1 : 1 ≤ n) (h7 : n ≤ 7) (hfn : f < n) (hw : s.way.length ≤ 50000) (b1 : pa < 65536) (b2 : pt < 256) (b3 : pw < 256) (hf0 : f = 0) (h : Talk w0 w n f frm s cb sb db vw a1 a2 k1 k2) :
    Calls Try.prog 24 #[.pointer (some ⟨w0.heap.size, 0, none⟩), .agg #[.bool true, .int .u16 (pa : Nat), .int .u8 (pt : Nat), .int .i64 kind, .int .u8 (pw : Nat), .string body]] w (StepPost w0 n f frm s cb sb db) := by
  have RT : Aside (∀ w', Talk w0 w' n f frm s cb sb db vw a1 a2 k1 k2 → StepPost w0 n f frm s cb sb db (.returned (.bool true)) w') := fun w' hT => ⟨rfl, _, _, _, _, _, hT⟩
  generalize StepPost w0 n f frm s cb sb db = Q at RT ⊢
  have TN : Aside (∀ o, Talk w0 (w.alloc o) n f frm s cb sb db vw a1 a2 k1 k2) := fun o => px_new h o
  have p1 := h.p1
  rw [hf0] at p1
  have pl := World.block_lt_of_cell? _ _ p1
  dsimp only at pl
  have Q1 : Aside (∀ o, Q (.returned (.bool true)) (w.alloc o)) := fun o => RT.out _ (TN.out o)
  clear RT TN h hf0 hfn b1 b2 b3 hw
  go_enter Try.func24, Try.ntmps24
  go_wp2
  exact Q1.out _

set_option maxHeartbeats 8000000 in
set_option maxRecDepth 100000 in
/-- A corrupt member's vote comes. -/
theorem step_lie (w0 : World) (n f frm : Nat) (s : Vt.Tk) (cb sb db : Nat) (vw : Value) (a1 a2 : Nat → Option Addr) (k1 k2 : Nat → Nat) (pa pt pw : Nat) (kind : Int) (body : ByteArray) (w : World) (h1 : 1 ≤ n) (h7 : n ≤ 7) (hfn : f < n) (hw : s.way.length ≤ 50000) (b1 : pa < 65536) (b2 : pt < 256) (b3 : pw < 256) (hf0 : 1 ≤ f) (to who : Nat) (hto : to = f + pt % (n - f)) (hwho : who = pw % f) (hlen : (s.cs to).echoes.length ≤ 900 ∧ (s.cs to).readies.length ≤ 900)
    (hdone : (Vt.take (s.cs to) (2 ^ n - 1) frm kind who body).is = true → s.done to = false) (h : Talk w0 w n f frm s cb sb db vw a1 a2 k1 k2) :
    Calls Try.prog 24 #[.pointer (some ⟨w0.heap.size, 0, none⟩), .agg #[.bool true, .int .u16 (pa : Nat), .int .u8 (pt : Nat), .int .i64 kind, .int .u8 (pw : Nat), .string body]] w (StepPost w0 n f frm (Vt.come n f frm s ⟨to, who, kind, body⟩) cb sb db) := by
  have RT : Aside (∀ w', (∃ vw a1 a2 k1 k2, Talk w0 w' n f frm (Vt.come n f frm s ⟨to, who, kind, body⟩) cb sb db vw a1 a2 k1 k2) → StepPost w0 n f frm (Vt.come n f frm s ⟨to, who, kind, body⟩) cb sb db (.returned (.bool true)) w') := fun w' hT => ⟨rfl, hT⟩
  obtain ⟨d, hd⟩ : ∃ d, d = n - f := ⟨_, rfl⟩
  obtain ⟨r, hr⟩ : ∃ r, r = pt % d := ⟨_, rfl⟩
  have hrd : r < d := by rw [hr]; exact Nat.mod_lt _ (by rw [hd]; exact Nat.sub_pos_of_lt hfn)
  rw [← hd, ← hr] at hto
  have hwf : who < f := by rw [hwho]; exact Nat.mod_lt _ hf0
  obtain ⟨hd1, hton, y1, y2, y3, y4, z1, z2⟩ := lie_nums h7 hfn hd hrd hto hwf
  have CO : Aside (∀ W, Talk w0 W n f frm s cb sb db vw a1 a2 k1 k2 → Calls Try.prog 26 #[.pointer (some ⟨w0.heap.size, 0, none⟩), .agg #[.int .u8 (to : Nat), .int .u8 (who : Nat), .int .i64 kind, .string body]] W (ComePost w0 W n f frm (Vt.come n f frm s ⟨to, who, kind, body⟩) cb sb db vw)) := fun W hT => come_any w0 n f frm s cb sb db vw a1 a2 k1 k2 to who kind body W h1 h7 (Nat.le_of_lt hfn) hton hw hlen hdone hT
  generalize StepPost w0 n f frm _ cb sb db = Q at RT ⊢
  have X0 : Aside (∀ o, Talk w0 (w.alloc o) n f frm s cb sb db vw a1 a2 k1 k2) := fun o => px_new h o
  have KP : Aside (∀ w9, (∃ vw a1 a2 k1 k2, Talk w0 w9 n f frm (Vt.come n f frm s ⟨to, who, kind, body⟩) cb sb db vw a1 a2 k1 k2) → _ → _) := fun w9 hT hk => px_keeps (v0 := .bool true) (v1 := .int .u16 (pa : Int)) (v2 := .int .u8 (pt : Int)) (v3 := .int .i64 kind) (v4 := .int .u8 (pw : Int)) (v5 := .string body) h hT hk
  have x1 : wrap64 (pt : Int) = (pt : Int) := w64_nat (Nat.lt_trans b2 (by decide))
  have x2 : wrap64 (pw : Int) = (pw : Int) := w64_nat (Nat.lt_trans b3 (by decide))
  have x3 : wrap64 ((n : Int) - (f : Int)) = (d : Int) := w64_sub h7 hfn hd
  have x4 : (pt : Int).tmod (d : Int) = (r : Int) := tmod_nat hr
  have x5 : wrap64 ((f : Int) + (r : Int)) = (to : Int) := w64_add z1 z2 hto
  have x6 : (pw : Int).tmod (f : Int) = (who : Int) := tmod_nat hwho
  have v1 : IntKind.i64.wrap (pt : Int) = (pt : Int) := (wrap_eq _).trans x1
  have v2 : IntKind.i64.wrap (pw : Int) = (pw : Int) := (wrap_eq _).trans x2
  have v3 : IntKind.i64.wrap ((n : Int) - (f : Int)) = (d : Int) := (wrap_eq _).trans x3
  have v5 : IntKind.i64.wrap ((f : Int) + (r : Int)) = (to : Int) := (wrap_eq _).trans x5
  have v6 : IntKind.u8.wrap (to : Int) = (to : Int) := wu8 y1 y2
  have v7 : IntKind.u8.wrap (who : Int) = (who : Int) := wu8 y3 y4
  have x7 := nat_ne0 hd1
  have x8 := nat_ne0 hf0
  have x9 : ¬ (d : Int) = 0 := fun e => by have := Int.ofNat.inj e; rw [this] at hd1; exact Nat.not_succ_le_zero _ hd1
  have xa : ¬ (f : Int) = 0 := fun e => by have := Int.ofNat.inj e; rw [this] at hf0; exact Nat.not_succ_le_zero _ hf0
  have xb : ¬ d = 0 := Nat.ne_of_gt hd1
  have xc : ¬ f = 0 := Nat.ne_of_gt hf0
  have p0 := h.p0
  have p1 := h.p1
  have pl := World.block_lt_of_cell? _ _ p1
  dsimp only at pl
  have wl : w0.heap.size ≠ w.heap.size := Nat.ne_of_lt pl
  have wl2 := wl.symm
  clear hr hto hwho hdone hlen hd hrd hton hwf h hd1 z1 z2 b1 b2 b3 h7 h1 hfn hf0 hw
  go_enter Try.func24, Try.ntmps24
  go_wp2_with fail
  go_region_held3 (fun w' => w'.cell? ⟨w0.heap.size, 0, none⟩ = some (.int .i64 (n : Int)) ∧ w'.cell? ⟨w0.heap.size, 1, none⟩ = some (.int .i64 (f : Int)) ∧ w'.cell? ⟨w.heap.size, 2, none⟩ = some (.int .u8 (pt : Int)) ∧ w'.cell? ⟨w.heap.size, 3, none⟩ = some (.int .i64 kind) ∧ w'.cell? ⟨w.heap.size, 4, none⟩ = some (.int .u8 (pw : Int)) ∧ w'.cell? ⟨w.heap.size, 5, none⟩ = some (.string body))
    (first | go_keep)
    (first
      | (go_at_call 26; refine (CO.out _ ((X0.out _).later ((Below.refl _ _).drew))).mono ?_; rintro z w9 ⟨rfl, hT, hk⟩; have Q1 : Aside (Q (.returned (.bool true)) w9) := RT.out w9 hT; have KK := KP.out w9 hT hk; clear hT hk RT CO X0 KP p0 p1; obtain ⟨p0, p1, p2, p3, p4, p5⟩ := KK)
      | fail)
  go_wp2
  exact Q1.out

set_option maxHeartbeats 8000000 in
set_option maxRecDepth 100000 in
/-- Nothing is under way. -/
theorem step_idle (w0 : World) (n f frm : Nat) (s : Vt.Tk) (cb sb db : Nat) (vw : Value) (a1 a2 : Nat → Option Addr) (k1 k2 : Nat → Nat) (pa pt pw : Nat) (kind : Int) (body : ByteArray) (w : World) (h1 : 1 ≤ n) (h7 : n ≤ 7) (hfn : f < n) (hw : s.way.length ≤ 50000) (b1 : pa < 65536) (b2 : pt < 256) (b3 : pw < 256) (hl : s.way.length = 0) (h : Talk w0 w n f frm s cb sb db vw a1 a2 k1 k2) :
    Calls Try.prog 24 #[.pointer (some ⟨w0.heap.size, 0, none⟩), .agg #[.bool false, .int .u16 (pa : Nat), .int .u8 (pt : Nat), .int .i64 kind, .int .u8 (pw : Nat), .string body]] w (StepPost w0 n f frm s cb sb db) := by
  have RT : Aside (∀ w', Talk w0 w' n f frm s cb sb db vw a1 a2 k1 k2 → StepPost w0 n f frm s cb sb db (.returned (.bool true)) w') := fun w' hT => ⟨rfl, _, _, _, _, _, hT⟩
  generalize StepPost w0 n f frm s cb sb db = Q at RT ⊢
  have TN : Aside (∀ o, Talk w0 (w.alloc o) n f frm s cb sb db vw a1 a2 k1 k2) := fun o => px_new h o
  have p6 := h.p6
  obtain ⟨va, vc, hv⟩ : ∃ va vc, vw = .slice va 0 vc := by
    have := h.way
    rw [hl] at this
    rcases this.2 with ⟨e, _⟩ | ⟨g, o, cap, cur, e, _⟩
    · exact ⟨_, _, e⟩
    · exact ⟨_, _, e⟩
  rw [hv] at p6
  have pl := World.block_lt_of_cell? _ _ p6
  dsimp only at pl
  have Q1 : Aside (∀ o, Q (.returned (.bool true)) (w.alloc o)) := fun o => RT.out _ (TN.out o)
  clear RT TN h hl hv hfn b1 b2 b3 hw
  go_enter Try.func24, Try.ntmps24
  go_wp2
  exact Q1.out _

set_option maxHeartbeats 8000000 in
set_option maxRecDepth 100000 in
/-- A vote that is under way comes. -/
theorem step_way (w0 : World) (n f frm : Nat) (s : Vt.Tk) (cb sb db : Nat) (vw : Value) (a1 a2 : Nat → Option Addr) (k1 k2 : Nat → Nat) (pa pt pw : Nat) (kind : Int) (body : ByteArray) (w : World) (h1 : 1 ≤ n) (h7 : n ≤ 7) (hfn : f < n) (hw : s.way.length ≤ 50000) (b1 : pa < 65536) (b2 : pt < 256) (b3 : pw < 256) (i : Nat) (u : Vt.Und) (hl : 0 < s.way.length) (hi : i = pa % s.way.length) (hu : s.way[i]? = some u) (hun : u.to < n) (huw : u.who < 256) (hlen : (s.cs u.to).echoes.length ≤ 900 ∧ (s.cs u.to).readies.length ≤ 900)
    (hdone : (Vt.take (s.cs u.to) (2 ^ n - 1) frm u.kind u.who u.body).is = true → s.done u.to = false) (h : Talk w0 w n f frm s cb sb db vw a1 a2 k1 k2) :
    Calls Try.prog 24 #[.pointer (some ⟨w0.heap.size, 0, none⟩), .agg #[.bool false, .int .u16 (pa : Nat), .int .u8 (pt : Nat), .int .i64 kind, .int .u8 (pw : Nat), .string body]] w (StepPost w0 n f frm (Vt.come n f frm { s with way := s.way.eraseIdx i } u) cb sb db) := by
  obtain ⟨i0, hi0, hz0, hz1, hz2⟩ := info_parts info69
  have I : Try.prog.info? 69 = some i0 ∧ i0.zero = some (.agg #[.int .u8 0, .int .u8 0, .int .i64 0, .string ⟨#[]⟩]) ∧ i0.size = 4 ∧ i0.bytes = 32 := ⟨hi0, hz0, hz1, hz2⟩
  obtain ⟨to, who, ukind, ubody⟩ := u
  obtain ⟨L, hL⟩ : ∃ L, L = s.way.length := ⟨_, rfl⟩
  rw [← hL] at hl hi hw
  have hiL : i < L := by rw [hi]; exact Nat.mod_lt _ hl
  obtain ⟨g, ow, cap, rfl, hcap, hcell⟩ := h.way.form (by rw [← hL]; exact hl)
  rw [← hL] at h hcap
  obtain ⟨m, hm⟩ : ∃ m, m = L - (i + 1) := ⟨_, rfl⟩
  obtain ⟨N, hN⟩ : ∃ N, N = L - 1 := ⟨_, rfl⟩
  obtain ⟨ad, c, s1, s2, s3, s4, had⟩ := cut_way (g := g) (o := ow) (cap := cap) hiL hcap hm (by clear hi hdone hlen; omega)
  obtain ⟨c0, c1, c2, c3⟩ := wayC_get hu
  have o4 := h.ord.2.2.2
  have wl : w0.heap.size < w.heap.size := by have := h.ord; clear hi hdone hlen; omega
  have hgl := (h.way.lt g rfl)
  have g0 := hcell _ _ c0
  have g1 := hcell _ _ c1
  have g2 := hcell _ _ c2
  have g3 := hcell _ _ c3
  rw [← Nat.add_assoc] at g1 g2 g3
  -- the row behind it, in whatever world comes later
  have CU : Aside (∀ W : World, Below w.heap.size w W → ∃ g' og cap' w1, (Builtin.append_ #[65, 65] 65 #[.slice (some ⟨g, ow, none⟩) i i, .slice (some ad) m c]).run Try.prog W = .ok (.slice (some ⟨g', og, none⟩) N cap') w1 ∧ Aside (w1.cell? ⟨w0.heap.size, 6, none⟩ = some (.slice (some ⟨g, ow, none⟩) L cap) ∧ w1.frozen? ⟨w0.heap.size, 6, none⟩ = false ∧ w0.heap.size < w1.heap.size ∧ (∀ k, k < W.heap.size → k ≠ g → w1.heap[k]? = W.heap[k]?) ∧ Talk w0 (w1.setCell ⟨w0.heap.size, 6, none⟩ (.slice (some ⟨g', og, none⟩) N cap')) n f frm { s with way := s.way.eraseIdx i } cb sb db (.slice (some ⟨g', og, none⟩) N cap') a1 a2 k1 k2)) := fun W hb => by
    have H := h.later hb
    have hB : db + 1 ≤ W.heap.size := by have := hb.size; clear hi hdone hlen; omega
    have HW : WRow W (db + 1) (.slice (some ⟨g, ow, none⟩) L cap) L (wayC s.way) := by have := H.way; rw [← hL] at this; exact this
    obtain ⟨g', og, cap', w1, hr, hrow, hgr, hg'⟩ := cut_append (c := c) i0 I HW hL.symm hiL hm had (by clear hi hdone hlen; omega) hN hB
    have hsz := hgr.size
    have hne : some w0.heap.size ≠ some g := fun e => by have := Option.some.inj e; have := hgl.1; have := H.ord; clear hi hdone hlen; omega
    have hbk := hgr.block w0.heap.size (by have := hb.size; clear hi hdone hlen; omega) hne
    refine ⟨g', og, cap', w1, hr, (World.cell?_of_block (a := ⟨w0.heap.size, 6, none⟩) hbk).trans H.p6, (World.frozen?_of_block (a := ⟨w0.heap.size, 6, none⟩) hbk).trans (H.pz 6), by have := hb.size; clear hi hdone hlen; omega, fun k hk hkg => hgr.block k hk (fun e => hkg (Option.some.inj e)), ?_⟩
    have hle : (s.way.eraseIdx i).length = N := by rw [List.length_eraseIdx_of_lt (by rw [← hL]; exact hiL), ← hL, hN]
    refine h.cast (l := s.way.eraseIdx i) hb (by rw [hle]; exact hrow) hgr ?_
    rcases hg' with e | e
    · exact .inl (by rw [e]; rfl)
    · exact .inr (by rw [e]; rfl)
  have RT : Aside (∀ w', (∃ vw a1 a2 k1 k2, Talk w0 w' n f frm (Vt.come n f frm { s with way := s.way.eraseIdx i } ⟨to, who, ukind, ubody⟩) cb sb db vw a1 a2 k1 k2) → StepPost w0 n f frm (Vt.come n f frm { s with way := s.way.eraseIdx i } ⟨to, who, ukind, ubody⟩) cb sb db (.returned (.bool true)) w') := fun w' hT => ⟨rfl, hT⟩
  have P6 : Aside (∀ W, Below w.heap.size w W → W.cell? ⟨w0.heap.size, 6, none⟩ = some (.slice (some ⟨g, ow, none⟩) L cap)) := fun W hb => cell_later hb h.p6
  have CO : Aside (∀ W vx, Talk w0 W n f frm { s with way := s.way.eraseIdx i } cb sb db vx a1 a2 k1 k2 → Calls Try.prog 26 #[.pointer (some ⟨w0.heap.size, 0, none⟩), .agg #[.int .u8 (to : Nat), .int .u8 (who : Nat), .int .i64 ukind, .string ubody]] W (ComePost w0 W n f frm (Vt.come n f frm { s with way := s.way.eraseIdx i } ⟨to, who, ukind, ubody⟩) cb sb db vx)) := fun W vx hT => come_any w0 n f frm { s with way := s.way.eraseIdx i } cb sb db vx a1 a2 k1 k2 to who ukind ubody W h1 h7 (Nat.le_of_lt hfn) hun (by have : (s.way.eraseIdx i).length ≤ s.way.length := List.length_eraseIdx_le _ _; exact Nat.le_trans this (by rw [← hL]; exact hw)) hlen hdone hT
  generalize StepPost w0 n f frm _ cb sb db = Q at RT ⊢
  have p6 := h.p6
  have x1 : wrap64 (pa : Int) = (pa : Int) := w64_big b1
  have x2 : (pa : Int).tmod (L : Int) = (i : Int) := tmod_nat hi
  have x3 := nat_ne0 hl
  have x4 : (i : Int) < (L : Int) := by clear hi hdone hlen; omega
  have x5 : (0 : Int) ≤ (i : Int) := by clear hi hdone hlen; omega
  have xl : wrap64 ((i : Int) + 1) = (i : Int) + 1 := w64_isucc (by clear hi hdone hlen; omega)
  have xv : IntKind.i64.wrap ((i : Int) + 1) = (i : Int) + 1 := (wrap_eq _).trans xl
  have nl : g < w.heap.size := hgl.2
  have n1 : g ≠ w0.heap.size := by have := hgl.1; have := h.ord; clear hi hdone hlen; omega
  have n2 : w0.heap.size ≠ w.heap.size + 1 := by clear hi hdone hlen; omega
  have n3 := n2.symm
  clear hi hdone hlen hm hN had hcell c0 c1 c2 c3 hu hun huw hgl h o4 hcap hL hi0 hz0 hz1 hz2 I b1 b2 b3 h1 h7 hfn hw
  have VF : Aside (∀ q, Vst w (((w.alloc (.cells #[.bool false, .int .u16 (pa : Int), .int .u8 (pt : Int), .int .i64 kind, .int .u8 (pw : Int), .string body] 58)).drewN q).alloc (.cells #[.int .u8 (to : Int), .int .u8 (who : Int), .int .i64 ukind, .string ubody] 69)) to who ukind ubody) := fun q => vst_new w _ q to who ukind ubody
  go_enter Try.func24, Try.ntmps24
  go_wp2_with fail
  go_quiet (fail)
  go_wp2_with fail
  refine (?_ : ∀ V, Vst w V to who ukind ubody → Code.wp _ _ _ _ V) _ (VF.out _)
  intro V hV
  have VV : Aside (Vst w V to who ukind ubody) := hV
  clear hV VF g0 g1 g2 g3 p6
  obtain ⟨g', og, cap', w1, hr, hA⟩ := CU.out V.drew (VV.out.below.drew)
  have p6 : V.cell? ⟨w0.heap.size, 6, none⟩ = some (.slice (some ⟨g, ow, none⟩) L cap) := P6.out V VV.out.below
  have pV : w0.heap.size < V.heap.size := Nat.lt_of_lt_of_le wl VV.out.below.size
  have TT : Aside (Talk w0 (w1.setCell ⟨w0.heap.size, 6, none⟩ (.slice (some ⟨g', og, none⟩) N cap')) n f frm { s with way := s.way.eraseIdx i } cb sb db (.slice (some ⟨g', og, none⟩) N cap') a1 a2 k1 k2) := hA.out.2.2.2.2
  have UC : Aside (Vu w0 w (w1.setCell ⟨w0.heap.size, 6, none⟩ (.slice (some ⟨g', og, none⟩) N cap')) to who ukind ubody) := vu_new VV.out hA.out.2.2.2.1 wl nl
  obtain ⟨z6, zf, zl, -, -⟩ := hA.out
  clear hA CU VV
  go_region_law (refine step_append_run (by rfl) _ _ (by rfl) (by rfl) (by rfl) (by rfl) hr ?_)
  all_goals
    refine (?_ : ∀ W, (Talk w0 W n f frm { s with way := s.way.eraseIdx i } cb sb db (.slice (some ⟨g', og, none⟩) N cap') a1 a2 k1 k2 ∧ Vu w0 w W to who ukind ubody) → Exit.then _ _ _ _ W) _ ⟨TT.out, UC.out⟩
    intro W hW
    have HW : Aside (Talk w0 W n f frm { s with way := s.way.eraseIdx i } cb sb db (.slice (some ⟨g', og, none⟩) N cap') a1 a2 k1 k2) := hW.1
    have u0 := hW.2.u0
    have u1 := hW.2.u1
    have u2 := hW.2.u2
    have u3 := hW.2.u3
    have ul := World.block_lt_of_cell? _ _ u0
    dsimp only at ul
    clear hW TT UC z6 zf zl p6 pV hr
    go_wp2_with fail
    refine (CO.out W _ HW.out).mono ?_
    rintro z w9 ⟨rfl, hT, -⟩
    have Q1 : Aside (Q (.returned (.bool true)) w9) := RT.out w9 hT
    clear hT RT CO HW u0 u1 u2 u3 ul
    go_wp2
    exact Q1.out
end Go.Proofs.Ytlekbbpancaenaa
