/- Where a body stands, who voted, for whom, how many; ballots cloned: a contract a function. -/
import Derived.Test.YtmhjmeedoajkjaaVtB
import Derived.Lib.SliceRun
namespace Go.Proofs.Ytmhjmeedoajkjaa
open Go.RowKit Go.Shelf

theorem at_some {w : World} {a : Option Addr} {d : ByteArray × Nat} {l : Vt.Bal} (h : Vt.At w a (d :: l)) : ∃ b off, a = some ⟨b, off, none⟩ ∧ b < w.heap.size ∧ ∀ j u, (Vt.balC (d :: l))[j]? = some u → w.cell? ⟨b, off + j, none⟩ = some u := by
  rcases h with h | ⟨b, off, rfl, hc⟩
  · cases h
  · exact ⟨b, off, rfl, Vt.At.block hc, hc⟩

theorem place_any (a : Option Addr) (cap : Nat) (l : Vt.Bal) (x : ByteArray) (w : World) (h : Vt.At w a l) (hn : l.length ≤ 1000) :
    Calls Try.prog 61 #[.slice a l.length cap, .string x] w fun e w' => e = .returned (.int .i64 (Vt.idx l x)) ∧ Below w.heap.size w w' := by
  have key : Calls Try.prog 71 #[.slice a l.length cap, .func (.func 72) #[] #[.pointer (some ⟨w.heap.size, 0, none⟩)]] (w.alloc (.cells #[.string x] 9)) fun e w' => e = .returned (.int .i64 (Vt.idx l x)) ∧ Below (w.alloc (.cells #[.string x] 9)).heap.size (w.alloc (.cells #[.string x] 9)) w' := by
    cases l with
    | nil => exact (index_empty a cap _ _).mono fun e w' ⟨he, hw⟩ => ⟨he, by rw [hw]; exact Below.refl _ _⟩
    | cons d l =>
      obtain ⟨b, off, rfl, hb, hc⟩ := at_some h
      have eg : ∀ args w, (callFunc 72 args).run Try.prog w = .ok (.enter 72 args) w := enters_of Try.func72 (by kernel_rfl) rfl
      have hcon := AnyQ.slices_IndexFunc index66 2 Try.isAgg94 Try.sizeOf94 Vt.enc (fun _ => rfl) (fun y => decide (y.1 = x)) 72 #[.pointer (some ⟨w.heap.size, 0, none⟩)] eg b off (d :: l).length cap (d :: l) (w.alloc (.cells #[.string x] 9))
        (pred67 x w.heap.size _ (by simp) (by simp)) (Nat.le_refl _) (by omega) (by simp; omega) (fun j hj i v hi => Lib.cell?_alloc_some _ (Vt.At.cells hc j hj i v hi))
      change Calls Try.prog 71 _ _ _ at hcon
      rw [List.take_length] at hcon
      exact hcon
  generalize Vt.idx l x = r at key ⊢
  generalize l.length = n at key ⊢
  clear h
  go_enter Try.func61, Try.ntmps61
  go_wp2_with fail
  refine key.mono ?_; rintro e w' ⟨rfl, hb'⟩
  go_wp2
  go_ret
  exact ⟨rfl, ((Below.refl _ w).alloc (Nat.le_refl _) _).trans (hb'.mono (by simp))⟩

theorem voted_small {l : Vt.Bal} (h : Vt.Small l) (id : Nat) : l.any (fun b => Cn.hasS (b.2 % 65536) id) = Vt.votedB l id := by
  unfold Vt.votedB
  induction l with
  | nil => rfl
  | cons b l ih =>
    rw [List.any_cons, List.any_cons, ih fun c hc => h c (by simp [hc]), Nat.mod_eq_of_lt (h b (by simp))]
theorem enc_small {b : ByteArray × Nat} (h : b.2 < 65536) : Vt.encM b = Vt.enc b := by unfold Vt.encM Vt.enc; rw [Nat.mod_eq_of_lt h]

theorem voted_any (a : Option Addr) (cap : Nat) (l : Vt.Bal) (id : Nat) (w : World) (h : Vt.At w a l) (hs : Vt.Small l) (hn : l.length ≤ 1000) :
    Calls Try.prog 46 #[.slice a l.length cap, .int .u8 (id : Nat)] w fun e w' => e = .returned (.bool (Vt.votedB l id)) ∧ Below w.heap.size w w' := by
  have key : Calls Try.prog 59 #[.slice a l.length cap, .func (.func 60) #[] #[.pointer (some ⟨w.heap.size, 0, none⟩)]] (w.alloc (.cells #[.int .u8 (id : Int)] 5)) fun e w' => e = .returned (.bool (Vt.votedB l id)) ∧ Below (w.alloc (.cells #[.int .u8 (id : Int)] 5)).heap.size (w.alloc (.cells #[.int .u8 (id : Int)] 5)) w' := by
    cases l with
    | nil => exact (contains_empty a cap _ _).mono fun e w' ⟨he, hw⟩ => ⟨he, by rw [hw]; exact Below.refl _ _⟩
    | cons d l =>
      obtain ⟨b, off, rfl, hb, hc⟩ := at_some h
      have eg : ∀ args w, (callFunc 60 args).run Try.prog w = .ok (.enter 60 args) w := enters_of Try.func60 (by kernel_rfl) rfl
      have hcon := AnyQ.slices_ContainsFunc contains68 2 Try.isAgg94 Try.sizeOf94 Vt.encM (fun _ => rfl) (fun y => Cn.hasS (y.2 % 65536) id) 60 #[.pointer (some ⟨w.heap.size, 0, none⟩)] eg b off (d :: l).length cap (d :: l) (w.alloc (.cells #[.int .u8 (id : Int)] 5))
        (pred69 id w.heap.size _ (by simp) (by simp)) (Nat.le_refl _) (by omega) (by simp; omega) (fun j hj i v hi => Lib.cell?_alloc_some _ (Vt.At.cells hc j hj i v (by
          rw [enc_small (hs _ (by rw [getElem!_pos _ j hj]; exact List.getElem_mem hj))] at hi; exact hi)))
      change Calls Try.prog 59 _ _ _ at hcon
      rw [List.take_length, voted_small hs] at hcon
      exact hcon
  generalize Vt.votedB l id = r at key ⊢
  generalize l.length = n at key ⊢
  clear h
  go_enter Try.func46, Try.ntmps46
  go_wp2_with fail
  refine key.mono ?_; rintro e w' ⟨rfl, hb'⟩
  go_wp2
  go_ret
  exact ⟨rfl, ((Below.refl _ w).alloc (Nat.le_refl _) _).trans (hb'.mono (by simp))⟩

theorem at_cell {w : World} {a : Option Addr} {l : Vt.Bal} {k s : Nat} {x : ByteArray} (h : Vt.At w a l) (hk : l[k]? = some (x, s)) : ∃ b off, a = some ⟨b, off, none⟩ ∧ w.cell? ⟨b, off + k * 2, none⟩ = some (.string x) ∧ w.cell? ⟨b, off + k * 2 + 1, none⟩ = some (.int .u16 (s : Int)) := by
  rcases h with rfl | ⟨b, off, rfl, hc⟩
  · simp at hk
  · obtain ⟨h1, h2⟩ := Vt.balC_get hk
    exact ⟨b, off, rfl, hc _ _ h1, by rw [Nat.add_assoc]; exact hc _ _ h2⟩

set_option maxHeartbeats 1000000 in
theorem for_any (a : Option Addr) (cap : Nat) (l : Vt.Bal) (x : ByteArray) (w : World) (h : Vt.At w a l) (hn : l.length ≤ 1000) :
    Calls Try.prog 63 #[.slice a l.length cap, .string x] w fun e w' => e = .returned (.int .u16 (Vt.forB l x : Nat)) ∧ Below w.heap.size w w' := by
  have hp := place_any a cap l x w h hn
  rcases Vt.idx_cases l x with ⟨h1, h2, _⟩ | ⟨k, s, h1, h2, h3, _⟩
  · rw [h1] at hp
    rw [h2]
    generalize l.length = n at *
    clear h h1 h2
    go_enter Try.func63, Try.ntmps63
    go_wp2_with fail
    refine hp.mono ?_; rintro e w' ⟨rfl, hb'⟩
    go_wp2
    go_ret
    exact ⟨rfl, hb'⟩
  · rw [h1] at hp
    rw [h3]
    have hk : k < l.length := (List.getElem?_eq_some_iff.1 h2).1
    obtain ⟨b, off, rfl, c1, c2⟩ := at_cell h h2
    have C2 : Aside (∀ w', Below w.heap.size w w' → w'.cell? ⟨b, off + k * 2 + 1, none⟩ = some (.int .u16 (s : Int))) := fun w' hb => cell_later hb c2
    have t1 : (0 : Int) ≤ (k : Int) := by omega
    have t2 : (k : Int) < (l.length : Int) := by omega
    generalize l.length = n at *
    clear h h1 h2 h3 c1 c2
    go_enter Try.func63, Try.ntmps63
    go_wp2_with fail
    refine hp.mono ?_; rintro e w' ⟨rfl, hb'⟩
    have c := C2.out w' hb'
    go_wp2
    go_ret
    exact ⟨rfl, hb'⟩

theorem votes_any (a : Option Addr) (cap : Nat) (l : Vt.Bal) (x : ByteArray) (w : World) (h : Vt.At w a l) (hs : Vt.Small l) (hn : l.length ≤ 1000) :
    Calls Try.prog 49 #[.slice a l.length cap, .string x] w fun e w' => e = .returned (.int .i64 (Vt.sizeB l x : Nat)) ∧ Below w.heap.size w w' := by
  have hp := for_any a cap l x w h hn
  have hz : Aside (∀ W, Calls Try.prog 33 #[.int .u16 (Vt.forB l x : Nat)] W fun e w' => e = .returned (.int .i64 (Cn.sizeS (Vt.forB l x) : Nat)) ∧ Drew W w') := fun W => size_any _ W (Vt.small_for hs x)
  unfold Vt.sizeB
  generalize Cn.sizeS (Vt.forB l x) = r at hz ⊢
  generalize Vt.forB l x = s at *
  generalize l.length = n at *
  clear h hs
  go_enter Try.func49, Try.ntmps49
  go_wp2_with fail
  refine hp.mono ?_; rintro e w1 ⟨rfl, hb1⟩
  go_wp2_with fail
  refine (hz.out _).mono ?_; rintro e w2 ⟨rfl, hd⟩
  go_wp2
  go_ret
  exact ⟨rfl, below_step hb1 (drew_below hd)⟩

theorem info77 : (Try.prog.info? 94).map (fun i => (i.zero, i.size, i.bytes)) = some (some (.agg #[.string ⟨#[]⟩, .int .u16 0]), 2, 24) := by kernel_rfl

set_option maxHeartbeats 2000000 in
set_option maxRecDepth 100000 in
theorem clone_some (ad : Addr) (n cap : Nat) (news : List Value) (w : World) (hl : news.length = n * 2) (hn : n ≤ 1000) (hc : ∀ j u, news[j]? = some u → w.cell? (ad.add j) = some u) (h1 : ∀ u ∈ news, u.oneCell' = true) :
    Calls Try.prog 37 #[.slice (some ad) n cap] w fun e w' => ∃ v', e = .returned v' ∧ w'.ownsRow w.heap.size 94 2 v' n news ∧ Below w.heap.size w w' := by
  obtain ⟨i0, hi, hz0, hz1, hz2⟩ := info_parts info77
  have I : Aside (Try.prog.info? 94 = some i0 ∧ i0.zero = some (.agg #[.string ⟨#[]⟩, .int .u16 0]) ∧ i0.size = 2 ∧ i0.bytes = 24) := ⟨hi, hz0, hz1, hz2⟩
  clear hi hz0 hz1 hz2
  have A : Aside (∀ j u, news[j]? = some u → w.cell? (ad.add j) = some u) := hc
  have H1 : Aside (∀ u ∈ news, u.oneCell' = true) := h1
  clear hc h1
  have q33 : ∀ (w : World) (a : Option Addr) (n c n' c' : Nat), (binOp .eql 46 (.slice a n c) (.slice none n' c')).run Try.prog w = .ok (.bool a.isNone) w := fun w a n c n' c' => Lib.run_eql_slice_nil w _ _ a n c n' c' Try.underlying46
  have u33 : ∀ w, Sem.run Try.prog (underlying 46) w = .ok (TypeDesc.slice 94) w := run_underlying Try.underlying46
  go_enter Try.func37, Try.ntmps37
  go_wp2_with (at_builtin; refine wpList_append_own _ rfl _ _ 46 rfl w.heap.size 94 i0 (.agg #[.string ⟨#[]⟩, .int .u16 0]) 2 24 Try.underlying46 I.out.1 I.out.2.1 I.out.2.2.1 I.out.2.2.2 rfl (by decide) _ _ _ rfl (World.ownsRow_made w #[] 0 (Nat.le_refl _) (Nat.zero_le _) (by simp)) ad n cap news rfl ?qc1 ?qc2 ?qc3 ?qc4 ?qc5 ?qc6 ?_)
  case qc1 => exact hl
  case qc2 =>
    intro j u hj
    exact Lib.cell?_alloc_some _ (A.out j u hj)
  case qc3 => exact H1.out
  case qc4 => rw [Nat.zero_add]; unfold maxLen; omega
  case qc5 => rw [Nat.zero_add]; omega
  case qc6 => simp
  intro v' w1 hown hgrow hnil
  go_wp2
  go_ret
  refine ⟨v', rfl, by simpa using hown, ?_⟩
  exact ((Below.refl _ w).alloc (Nat.le_refl _) _).grown hgrow (by simp) (by intro k hk; simp [Value.ownBlock] at hk; omega)

theorem clone_any (a : Option Addr) (cap : Nat) (l : Vt.Bal) (w : World) (h : Vt.At w a l) (hn : l.length ≤ 1000) :
    Calls Try.prog 37 #[.slice a l.length cap] w fun e w' => ∃ v', e = .returned v' ∧ w'.ownsRow w.heap.size 94 2 v' l.length (Vt.balC l) ∧ Below w.heap.size w w' := by
  cases a with
  | none =>
    obtain rfl : l = [] := by
      rcases h with h | ⟨b, off, h, _⟩
      · exact h
      · cases h
    have hcon := AnyE.slices_Clone_nil clone52 0 cap w
    change Calls Try.prog 37 _ _ _ at hcon
    refine hcon.mono ?_
    rintro e w' ⟨rfl, rfl⟩
    exact ⟨_, rfl, World.ownsRow_nil _ _ _ _, Below.refl _ _⟩
  | some ad =>
    refine clone_some ad l.length cap (Vt.balC l) w (Vt.balC_len l) hn ?_ (Vt.balC_one l)
    rcases h with rfl | ⟨b, off, h, hc⟩
    · intro j u hu; simp [Vt.balC] at hu
    · obtain rfl := Option.some.inj h
      intro j u hu
      rw [Addr.add_lit]
      exact hc j u hu
end Go.Proofs.Ytmhjmeedoajkjaa
