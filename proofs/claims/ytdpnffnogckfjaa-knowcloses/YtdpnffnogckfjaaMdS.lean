/- A mind that is ready to think: seeing, learning, thinking, by what they are for. -/
import Derived.Test.YtdpnffnogckfjaaMdO
import Derived.Test.YtdpnffnogckfjaaMdR
namespace Go.Proofs.Ytdpnffnogckfjaa
open Go.RowKit Go.Maps

theorem see_small {M : Mst} {c : Nat} (h : Small M.m c) (t : List UInt8) : Small (seeM M t).m (c + 6000) := by
  have key : ∀ (xs : List (List UInt8)) (M : Mst) (c : Nat), Small M.m c → Small (xs.foldl plc M).m (c + 3 * xs.length) := by
    intro xs
    induction xs with
    | nil => intro M c h; exact h
    | cons x xs ih =>
      intro M c h
      exact (ih (plc M x) (c + 3) (h.plc x)).mono (by simp; omega)
  unfold seeM
  refine (key _ M c h).mono ?_
  have := Tm.subsOf_len t
  rw [List.length_reverse]
  omega
theorem Rt.congr {M : Mst} {E : List (List UInt8 × List UInt8)} {b b' : List UInt8 → Prop} (h : Rt M E b) (e : ∀ x, b x ↔ b' x) : Rt M E b' :=
  ⟨h.rs, h.wide, h.ed, h.ok, fun x => by rw [h.kn, e], h.fr⟩

/-- A mind, made since the world was w, that has seen some terms, and was told some. -/
def Ready (w : World) (pm bv bk : Nat) (seen : List (List UInt8)) (base : List UInt8 → Prop) (c : Nat) (wr : World) : Prop :=
  ∃ ω M E, MindAt ω wr pm bv bk M ∧ Rt M E base ∧ (∀ x, x ∈ M.m.1 ↔ Tm.Uni seen x) ∧ Small M.m c ∧ (∀ i, i < w.heap.size → ω i = none) ∧ Below w.heap.size w wr

theorem free_below {ω : Tag} {w wr w' : World} (hb : Below w.heap.size w wr) (h : Free ω wr w') (hw : ∀ i, i < w.heap.size → ω i = none) : Below w.heap.size w w' :=
  ⟨h.os.trans hb.os, h.tape.trans hb.tape, h.output.trans hb.output, Nat.le_trans hb.size h.size, fun j hj => (h.block j (by have := hb.size; omega) (hw j hj)).trans (hb.block j hj)⟩

theorem uni_more {seen : List (List UInt8)} {t x : List UInt8} : Tm.Uni (seen ++ [t]) x ↔ Tm.Uni seen x ∨ x ∈ Tm.subsOf t := by
  unfold Tm.Uni
  constructor
  · rintro ⟨y, hy, hx⟩
    rcases List.mem_append.1 hy with hy | hy
    · exact .inl ⟨y, hy, hx⟩
    · simp at hy; subst hy; exact .inr hx
  · rintro (⟨y, hy, hx⟩ | hx)
    · exact ⟨y, by simp [hy], hx⟩
    · exact ⟨t, by simp, hx⟩

theorem ready_see {w wr : World} {pm bv bk c : Nat} {seen : List (List UInt8)} {base : List UInt8 → Prop} (h : Ready w pm bv bk seen base c wr) (hc : c ≤ 6900000) (t : List UInt8) :
    Calls Try.prog 32 #[.pointer (some ⟨pm, 0, none⟩), str t] wr fun e w' => e = .returned (.int .i64 (Tm.chk t : Nat)) ∧ (Tm.chk t = 0 → Ready w pm bv bk (seen ++ [t]) base (c + 6000) w') ∧ Below w.heap.size w w' := by
  obtain ⟨ω, M, E, m1, r1, v1, s1, o1, b1⟩ := h
  by_cases h0 : Tm.chk t = 0
  · have hl := r1.ok.len
    have hl2 := s1.1
    refine (see_good ω pm bv bk M t wr m1 h0 (s1.mono hc) (by omega) (by omega)).mono ?_
    rintro e w' ⟨he, ω', m2, e2, f2⟩
    have hb := free_below b1 f2 o1
    refine ⟨he, fun _ => ?_, hb⟩
    obtain ⟨E', r2, v2⟩ := r1.see h0
    exact ⟨ω', _, E', m2, r2, fun x => by rw [v2, v1, uni_more], see_small s1 t, fun i hi => (e2 i (by have := b1.size; omega)).trans (o1 i hi), hb⟩
  · refine (see_bad ω pm bv bk M t wr m1 h0).mono ?_
    rintro e w' ⟨he, ω', m2, e2, f2⟩
    exact ⟨he, fun h => absurd h h0, free_below b1 f2 o1⟩
theorem ready_learn {w wr : World} {pm bv bk c : Nat} {seen : List (List UInt8)} {base : List UInt8 → Prop} (h : Ready w pm bv bk seen base c wr) (hc : c ≤ 6900000) {t : List UInt8} (ht : Tm.chk t = 0) (hu : Tm.Uni seen t) :
    Calls Try.prog 40 #[.pointer (some ⟨pm, 0, none⟩), str t] wr fun e w' => e = .returned (.tuple #[]) ∧ Ready w pm bv bk seen (fun x => x = t ∨ base x) c w' := by
  obtain ⟨ω, M, E, m1, r1, v1, s1, o1, b1⟩ := h
  have hl := r1.ok.len
  have hl2 := s1.1
  refine (learn_any ω pm bv bk M.σ t wr m1.1 (Tm.chk_zero ht).1 (by omega) (by omega)).mono ?_
  rintro e w' ⟨he, ω', k2, e2, f2⟩
  exact ⟨he, ω', ⟨M.m, lrn M.σ t⟩, E, ⟨k2, m1.2.fix f2 e2⟩, r1.learn ((v1 t).2 hu), v1, s1, fun i hi => (e2 i (by have := b1.size; omega)).trans (o1 i hi), free_below b1 f2.free o1⟩

/-- What thinking is for. -/
def Thought (w : World) (pm bv bk : Nat) (seen : List (List UInt8)) (base : List UInt8 → Prop) (w' : World) : Prop :=
  ∃ ω K, Kn ω w' pm bv bk (K, []) ∧ K.Nodup ∧ K.length ≤ 8000000 ∧ (∀ x, x ∈ K ↔ Tm.Cl base (Tm.Uni seen) x) ∧ Below w.heap.size w w'
theorem ready_think {w wr : World} {pm bv bk c : Nat} {seen : List (List UInt8)} {base : List UInt8 → Prop} (h : Ready w pm bv bk seen base c wr) (hc : c ≤ 8000000) :
    Calls Try.prog 26 #[.pointer (some ⟨pm, 0, none⟩)] wr fun e w' => e = .returned (.tuple #[]) ∧ Thought w pm bv bk seen base w' := by
  obtain ⟨ω, M, E, m1, r1, v1, s1, o1, b1⟩ := h
  have hv : View ω wr bv M.m.1 E := viewG_iff.2 (viewG_congr m1.2 r1.rs)
  have hV : (fun x => x ∈ M.m.1) = Tm.Uni seen := funext fun x => propext (v1 x)
  have hwl : ∀ t, (wholes E t).length ≤ 20000000 := by
    intro t
    by_cases ht : t ∈ M.m.1
    · have h1 := s1.2 t
      unfold at0 at h1
      rw [if_pos ht, r1.rs t ht] at h1
      unfold rightS at h1
      dsimp only at h1
      omega
    · rw [wholes_none (fun e he e1 => ht (by
        have h3 := (r1.ed e).1 he
        have := r1.wide.full _ h3.1 _ h3.2
        rw [e1] at this
        exact this))]
      simp
  refine (think_any ω pm bv bk M.σ M.m.1 E wr m1.1 hv r1.wide (fun e he => ((r1.ed e).1 he).1) r1.ok (by have := s1.1; omega) hwl (Thinks base M.m.1) r1.thinks (fun K F t hT hO => hT.step r1.wide r1.ed hO)).mono ?_
  rintro e w' ⟨he, K, hT, hO, ω', k2, e2, f2⟩
  refine ⟨he, ω', K, k2, hO.nodup, ?_, fun x => ?_, free_below b1 f2.free o1⟩
  · have := hO.len.1
    have := s1.1
    dsimp only at *
    omega
  · rw [hT.done r1.wide hO x, hV]

/-- A mind that was just made. -/
theorem ready_made (w : World) : Ready w (w.heap.size + 1 + 1) w.heap.size (w.heap.size + 1) [] (fun _ => False) 0
    (((w.alloc (.map #[] 0)).alloc (.map #[] 0)).alloc (.cells #[.map (some w.heap.size), .map (some (w.heap.size + 1)), .slice none 0 0] 61)) := by
  let ω : Tag := fun j => if j < w.heap.size then none else if j = w.heap.size then some (some []) else some none
  have hs1 : (w.alloc (.map #[] 0)).heap.size = w.heap.size + 1 := by simp
  have hs2 : ((w.alloc (.map #[] 0)).alloc (.map #[] 0)).heap.size = w.heap.size + 1 + 1 := by simp
  refine ⟨ω, ⟨([], fun _ => ⟨0, [], []⟩), ([], [])⟩, [], ⟨⟨.slice none 0 0, ?_, ?_, ?_, ?_, World.ownsRow_nil _ _ _ _, fun j hj => by cases hj⟩, ⟨fun _ => (.slice none 0 0, .slice none 0 0), ?_, ?_, fun s hs => by cases hs⟩⟩, ⟨?_, ⟨?_, ?_⟩, ?_, ⟨List.nodup_nil, ?_, Nat.le_refl _, ?_⟩, ?_, ?_⟩, ?_, ?_, ?_, ?_⟩
  · have := heap_alloc_new ((w.alloc (.map #[] 0)).alloc (.map #[] 0)) (.cells #[.map (some w.heap.size), .map (some (w.heap.size + 1)), .slice none 0 0] 61)
    rw [hs2] at this
    exact this
  · show (if _ then _ else if _ then _ else _) = _
    rw [if_neg (by omega), if_neg (by omega)]
  · show (if _ then _ else if _ then _ else _) = _
    rw [if_neg (by omega), if_neg (by omega)]
  · have := mapAt_made (w.alloc (.map #[] 0))
    rw [hs1] at this
    refine (this.kept (Below.heap_alloc _ _ _ (by omega))).congr (fun s => ?_)
    unfold kset; simp
  · have := mapAt_made w
    refine ((this.kept (Below.heap_alloc _ _ _ (by omega))).kept (Below.heap_alloc _ _ _ (by omega))).congr (fun s => ?_)
    unfold vmapG; simp
  · show (if _ then _ else if _ then _ else _) = _
    rw [if_neg (by omega), if_pos rfl]
  · intro s hs; cases hs
  · intro s hs; cases hs
  · intro s hs; cases hs
  · intro e; simp
  · intro x hx; cases hx
  · intro x hx; cases hx
  · intro x; simp
  · intro x hx; cases hx
  · intro x; simp [Tm.Uni]
  · exact ⟨Nat.le_refl _, fun p => by unfold at0; simp⟩
  · intro i hi; exact if_pos hi
  · exact (((Below.refl _ w).alloc (Nat.le_refl _) _).alloc (by omega) _).alloc (by omega) _

end Go.Proofs.Ytdpnffnogckfjaa
