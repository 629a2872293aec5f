/- Of a talk: the set of all members; a member's vote sets out. -/
import Derived.Test.YtlekbbpancaenaaTkA
namespace Go.Proofs.Ytlekbbpancaenaa
open Go.RowKit Go.Shelf

set_option maxHeartbeats 4000000 in
set_option maxRecDepth 100000 in
theorem all_any (P n : Nat) (w : World) (h1 : 1 ≤ n) (h7 : n ≤ 7) (hp : w.cell? ⟨P, 0, none⟩ = some (.int .i64 (n : Int))) :
    Calls Try.prog 47 #[.pointer (some ⟨P, 0, none⟩)] w fun e w' => e = .returned (.int .u16 ((2 ^ n - 1 : Nat) : Int)) ∧ w' = w := by
  have hn : n = 1 ∨ n = 2 ∨ n = 3 ∨ n = 4 ∨ n = 5 ∨ n = 6 ∨ n = 7 := by omega
  have hl := World.block_lt_of_cell? _ _ hp
  dsimp only at hl
  rcases hn with rfl | rfl | rfl | rfl | rfl | rfl | rfl
  all_goals
    go_enter Try.func47, Try.ntmps47
    go_wp2
    go_ret
    exact ⟨rfl, rfl⟩

/-- What cast leaves: the talk with votes under way more, and all else but its own pointer and row. -/
def CastPost (w0 w : World) (n f frm : Nat) (s : Vt.Tk) (cb sb db : Nat) (vw : Value) (a1 a2 : Nat → Option Addr) (k1 k2 : Nat → Nat) (more : List Vt.Und) (e : Ending) (w' : World) : Prop :=
  e = .returned (.tuple #[]) ∧ ∃ vw', Talk w0 w' n f frm { s with way := s.way ++ more } cb sb db vw' a1 a2 k1 k2 ∧ w.heap.size ≤ w'.heap.size ∧ (∀ k, k < w.heap.size → k ≠ w0.heap.size → vw.ownBlock ≠ some k → w'.heap[k]? = w.heap[k]?) ∧ (∀ k, vw'.ownBlock = some k → vw.ownBlock = some k ∨ w.heap.size ≤ k)
theorem castL_take {f n who m : Nat} {kind : Int} {body : ByteArray} (hm : f + m < n) : (Vt.castL f n who kind body).take (m + 1) = (Vt.castL f n who kind body).take m ++ [⟨f + m, who, kind, body⟩] := by
  rw [List.take_add_one]
  congr 1
  unfold Vt.castL
  rw [List.getElem?_map, List.getElem?_range' (by omega)]
  simp
theorem way_start {w0 w : World} {n f frm : Nat} {s : Vt.Tk} {cb sb db : Nat} {vw : Value} {a1 a2 : Nat → Option Addr} {k1 k2 : Nat → Nat} {l : List Vt.Und} {m : Nat} (h : Talk w0 w n f frm s cb sb db vw a1 a2 k1 k2) (hm : m = 0) : Talk w0 w n f frm { s with way := s.way ++ l.take m } cb sb db vw a1 a2 k1 k2 := by
  subst hm
  have e : ({ s with way := s.way ++ l.take 0 } : Vt.Tk) = s := by rw [List.take_zero, List.append_nil]
  rw [e]; exact h
theorem castL_len (f n who : Nat) (kind : Int) (body : ByteArray) : (Vt.castL f n who kind body).length = n - f := by unfold Vt.castL; simp

set_option maxHeartbeats 8000000 in
set_option maxRecDepth 100000 in
theorem cast_any (w0 : World) (n f frm : Nat) (s : Vt.Tk) (cb sb db : Nat) (vw : Value) (a1 a2 : Nat → Option Addr) (k1 k2 : Nat → Nat) (who : Nat) (kind : Int) (body : ByteArray) (w : World) (h7 : n ≤ 7) (hfn : f ≤ n) (hw : s.way.length ≤ 50000) (h : Talk w0 w n f frm s cb sb db vw a1 a2 k1 k2) :
    Calls Try.prog 46 #[.pointer (some ⟨w0.heap.size, 0, none⟩), .int .u8 (who : Nat), .int .i64 kind, .string body] w (CastPost w0 w n f frm s cb sb db vw a1 a2 k1 k2 (Vt.castL f n who kind body)) := by
  obtain ⟨i0, hi, hz0, hz1, hz2⟩ := info_parts info69
  have I : Aside (Try.prog.info? 69 = some i0 ∧ i0.zero = some (.agg #[.int .u8 0, .int .u8 0, .int .i64 0, .string ⟨#[]⟩]) ∧ i0.size = 4 ∧ i0.bytes = 32) := ⟨hi, hz0, hz1, hz2⟩
  clear hi hz0 hz1 hz2
  have H : Aside (Talk w0 w n f frm s cb sb db vw a1 a2 k1 k2 ∧ s.way.length ≤ 50000) := ⟨h, hw⟩
  have RT : Aside (∀ w' vw', Talk w0 w' n f frm { s with way := s.way ++ Vt.castL f n who kind body } cb sb db vw' a1 a2 k1 k2 → w.heap.size ≤ w'.heap.size → (∀ k, k < w.heap.size → k ≠ w0.heap.size → vw.ownBlock ≠ some k → w'.heap[k]? = w.heap[k]?) → (∀ k, vw'.ownBlock = some k → vw.ownBlock = some k ∨ w.heap.size ≤ k) → CastPost w0 w n f frm s cb sb db vw a1 a2 k1 k2 (Vt.castL f n who kind body) (.returned (.tuple #[])) w') := fun w' vw' x1 x2 x3 x4 => ⟨rfl, vw', x1, x2, x3, x4⟩
  generalize CastPost w0 w n f frm s cb sb db vw a1 a2 k1 k2 (Vt.castL f n who kind body) = Q at RT ⊢
  have p1 := h.p1
  have pl := World.block_lt_of_cell? _ _ p1
  dsimp only at pl
  clear h hw
  go_enter Try.func46, Try.ntmps46
  go_wp2_with fail
  go_loopw [8] (fun to wr => ∃ q vx, f ≤ q ∧ q ≤ n ∧ to = .int .i64 (q : Nat) ∧ Aside (Talk w0 wr n f frm { s with way := s.way ++ (Vt.castL f n who kind body).take (q - f) } cb sb db vx a1 a2 k1 k2 ∧ w.heap.size ≤ wr.heap.size ∧ (∀ k, k < w.heap.size → k ≠ w0.heap.size → vw.ownBlock ≠ some k → wr.heap[k]? = w.heap[k]?) ∧ (∀ k, vx.ownBlock = some k → vw.ownBlock = some k ∨ w.heap.size ≤ k))) (fun to _ => n - (intOf to).toNat)
  case atStart => exact ⟨f, vw, Nat.le_refl _, hfn, rfl, way_start H.out.1 (Nat.sub_self f), Nat.le_refl _, fun _ _ _ _ => rfl, fun _ hk => .inl hk⟩
  case round =>
    obtain ⟨q, vx, hqf, hqn, rfl, hC⟩ := hrel
    clear p1 pl
    have q0 := hC.out.1.p0
    have ql := World.block_lt_of_cell? _ _ q0
    dsimp only at ql
    by_cases hlt : q < n
    · obtain ⟨m, hm⟩ : ∃ m, m = q - f := ⟨_, rfl⟩
      have HM : Aside (m = q - f ∧ f + m = q ∧ q + 1 - f = m + 1) := ⟨hm, by omega, by omega⟩
      rw [← hm] at hC
      clear hm
      have t1 : (q : Int) < (n : Int) := by omega
      have t2 : (0 : Int) ≤ (q : Int) := by omega
      have t3 : (q : Int) < 256 := by omega
      have q6 := hC.out.1.p6
      have LM : Aside (((s.way ++ (Vt.castL f n who kind body).take m).length : Nat) ≤ 50010) := by
        show _ ≤ _
        rw [List.length_append, List.length_take, castL_len]
        have := H.out.2
        omega
      have EX : Aside (∀ (v' : Value) (wa w1 : World), Below wr.heap.size wr wa → WRow w1 (db + 1) v' ((s.way ++ (Vt.castL f n who kind body).take m).length + 1) (wayC (s.way ++ (Vt.castL f n who kind body).take m) ++ [.int .u8 (q : Int), .int .u8 (who : Int), .int .i64 kind, .string body]) → wa.grownBy w1 vx.ownBlock → (v'.ownBlock = vx.ownBlock ∨ v'.ownBlock = some wa.heap.size) →
          Talk w0 (w1.setCell ⟨w0.heap.size, 6, none⟩ v') n f frm { s with way := s.way ++ (Vt.castL f n who kind body).take (m + 1) } cb sb db v' a1 a2 k1 k2 ∧ w.heap.size ≤ (w1.setCell ⟨w0.heap.size, 6, none⟩ v').heap.size ∧ (∀ k, k < w.heap.size → k ≠ w0.heap.size → vw.ownBlock ≠ some k → (w1.setCell ⟨w0.heap.size, 6, none⟩ v').heap[k]? = w.heap[k]?) ∧ (∀ k, v'.ownBlock = some k → vw.ownBlock = some k ∨ w.heap.size ≤ k)) := fun v' wa w1 hba hwr hgr hv => by
        have e : s.way ++ (Vt.castL f n who kind body).take (m + 1) = (s.way ++ (Vt.castL f n who kind body).take m) ++ [⟨q, who, kind, body⟩] := by rw [castL_take (by have := HM.out; omega), List.append_assoc, HM.out.2.1]
        have hT := hC.out.1.cast (l := (s.way ++ (Vt.castL f n who kind body).take m) ++ [⟨q, who, kind, body⟩]) hba (by rw [List.length_append, wayC_app]; exact hwr) hgr hv
        have s1 := hba.size
        have s2 := hgr.size
        have s3 := hC.out.2.1
        refine ⟨by rw [e]; exact hT, by simp [World.setCell]; omega, fun k hk hne hnr => ?_, fun k hk => ?_⟩
        · have hx : some k ≠ vx.ownBlock := fun ex => by
            rcases hC.out.2.2.2 k ex.symm with q | q
            · exact hnr q
            · omega
          rw [row_far hne, hgr.block k (by omega) hx, hba.block k (by omega)]
          exact hC.out.2.2.1 k hk hne hnr
        · rcases hv with q | q
          · exact hC.out.2.2.2 k (by rw [← q]; exact hk)
          · rw [q] at hk
            obtain rfl := Option.some.inj hk
            exact .inr (by omega)
      have WR : Aside (∀ o, WRow (wr.alloc o) (db + 1) vx (s.way ++ (Vt.castL f n who kind body).take m).length (wayC (s.way ++ (Vt.castL f n who kind body).take m)) ∧ Below wr.heap.size wr (wr.alloc o) ∧ db + 1 ≤ (wr.alloc o).heap.size) := fun o => by
        have hb : Below wr.heap.size wr (wr.alloc o) := (Below.refl _ wr).alloc (Nat.le_refl _) o
        exact ⟨hC.out.1.way.later hb, hb, by have := hC.out.1.ord.2.2.2; simp; omega⟩
      have PF : Aside (∀ (wa w1 : World), Below wr.heap.size wr wa → wa.grownBy w1 vx.ownBlock → w1.cell? ⟨w0.heap.size, 6, none⟩ = some vx ∧ w1.frozen? ⟨w0.heap.size, 6, none⟩ = false ∧ w0.heap.size < w1.heap.size) := fun wa w1 hba hgr => by
        have hT := hC.out.1.later hba
        have hne : some w0.heap.size ≠ vx.ownBlock := fun e => by have := (hT.way.lt _ e.symm).1; have := hT.ord; omega
        have hbk := hgr.block w0.heap.size (by have := hT.ord; omega) hne
        exact ⟨(World.cell?_of_block (a := ⟨w0.heap.size, 6, none⟩) hbk).trans hT.p6, (World.frozen?_of_block (a := ⟨w0.heap.size, 6, none⟩) hbk).trans (hT.pz 6), by have := hT.ord; have := hgr.size; omega⟩
      clear hC
      generalize (s.way ++ (Vt.castL f n who kind body).take m) = lw at *
      go_wp2_with (at_builtin; refine wpList_append_w rfl _ _ rfl (B := db + 1) (n := lw.length) (m := 1) (c := 1) (g0 := wr.heap.size) (o0 := 0) (v := vx) (xs := wayC lw) (news := [.int .u8 (q : Int), .int .u8 (who : Int), .int .i64 kind, .string body]) i0 I.out ?e1 ?e2 (WR.out _).1 rfl ?c1 ?c2 (by decide) ?c3 (WR.out _).2.2 (lw.length + 1) rfl (wr.heap.size + 1) (by simp) ?_)
      case e1 => rfl
      case e2 => rfl
      case c1 => intro j u hu; rw [Nat.zero_add, World.cell?_alloc_at _ _ _ _ rfl, ← hu, ← Array.getElem?_toList]
      case c2 => intro u hu; simp at hu; rcases hu with rfl | rfl | rfl | rfl <;> rfl
      case c3 => have := LM.out; omega
      intro g' og cap' w1 hrow hgr hat
      have NX : Aside (_ ∧ _ ∧ _ ∧ _) := EX.out (.slice (some ⟨g', og, none⟩) (lw.length + 1) cap') _ w1 (WR.out _).2.1 hrow hgr (by rcases hat with e | e; exact .inl e.symm; exact .inr (by rw [e]; simp [Value.ownBlock]))
      obtain ⟨z6, zf, zl⟩ := PF.out _ w1 (WR.out _).2.1 hgr
      clear EX WR PF hrow hgr hat LM
      go_wp2
      go_roundw
      case rel => exact ⟨q + 1, _, by omega, by omega, by go_num, by rw [HM.out.2.2]; exact NX.out⟩
      case measure => simp [intOf]; omega
    · obtain rfl : q = n := by omega
      have e : (Vt.castL f q who kind body).take (q - f) = Vt.castL f q who kind body := List.take_of_length_le (by rw [castL_len]; omega)
      have Q1 : Aside (Q (.returned (.tuple #[])) wr) := RT.out wr vx (by have := hC.out.1; rw [e] at this; exact this) hC.out.2.1 hC.out.2.2.1 hC.out.2.2.2
      clear hC RT e
      go_wp2
      exact ⟨rfl, .tuple #[], results_none rfl _ _ _, Q1.out⟩
end Go.Proofs.Ytlekbbpancaenaa
