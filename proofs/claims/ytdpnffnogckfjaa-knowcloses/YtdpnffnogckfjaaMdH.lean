/- What think gives. -/
import Derived.Test.YtdpnffnogckfjaaMdG
import Derived.Deep.LoopGhost
namespace Go.Proofs.Ytdpnffnogckfjaa
open Go.RowKit Go.Maps

/-- How much is to be thought yet, at most. -/
def toDo (V : List (List UInt8)) (σ : St) : Nat := 2 * (V.length - σ.1.length) + σ.2.length
theorem toDo_lrn {V : List (List UInt8)} {σ : St} (h : Ok V σ) {t : List UInt8} (ht : t ∈ V) : toDo V (lrn σ t) ≤ toDo V σ := by
  have := (h.lrn ht).len.1
  unfold lrn at *
  split
  · exact Nat.le_refl _
  · rename_i hn
    rw [if_neg hn] at this
    unfold toDo
    simp at this ⊢
    omega
theorem toDo_tkA {V : List (List UInt8)} {σ : St} (h : Ok V σ) (hV : Wide V) {t : List UInt8} (ht : t ∈ V) : toDo V (tkA σ t) ≤ toDo V σ := by
  unfold tkA
  split
  · rename_i hk
    obtain ⟨m0, m1⟩ := mem_p0 (hV.good t ht) (.inl hk)
    exact Nat.le_trans (toDo_lrn (h.lrn (hV.full t ht _ m0)) (hV.full t ht _ m1)) (toDo_lrn h (hV.full t ht _ m0))
  · split
    · rename_i hk
      obtain ⟨m0, m1⟩ := mem_p0 (hV.good t ht) (.inr hk)
      split
      · exact toDo_lrn h (hV.full t ht _ m1)
      · exact Nat.le_refl _
    · exact Nat.le_refl _
theorem toDo_ptS {V : List (List UInt8)} {σ : St} (h : Ok V σ) (hV : Wide V) {t : List UInt8} (ht : t ∈ V) : toDo V (ptS σ t) ≤ toDo V σ := by
  unfold ptS
  split
  · exact toDo_tkA h hV ht
  · split
    · exact toDo_lrn h ht
    · exact Nat.le_refl _
theorem toDo_ptT {V : List (List UInt8)} {σ : St} (h : Ok V σ) (hV : Wide V) {ws : List (List UInt8)} (hw : ∀ t ∈ ws, t ∈ V) : toDo V (ptT σ ws) ≤ toDo V σ := by
  induction ws generalizing σ with
  | nil => exact Nat.le_refl _
  | cons x ws ih => exact Nat.le_trans (ih (h.ptS hV (hw x (by simp))) (fun t ht => hw t (by simp [ht]))) (toDo_ptS h hV (hw x (by simp)))
theorem Ok.pop {V : List (List UInt8)} {K F : List (List UInt8)} {t : List UInt8} (h : Ok V (K, F ++ [t])) : Ok V (K, F) :=
  ⟨h.nodup, h.sub, by have := h.few; simp at this ⊢; omega, fun x hx => h.mem x (by simp [hx])⟩

theorem Kn.pop {ω : Tag} {w : World} {pm bv bk : Nat} {K F : List (List UInt8)} {t : List UInt8} (h : Kn ω w pm bv bk (K, F ++ [t])) :
    ∃ g cap, w.cell? ⟨pm, 2, none⟩ = some (.slice (some ⟨g, 0, none⟩) (F.length + 1) cap) ∧ w.frozen? ⟨pm, 2, none⟩ = false ∧ w.cell? ⟨g, F.length, none⟩ = some (str t) ∧ F.length + 1 ≤ cap ∧
      Kn ω (w.setCell ⟨pm, 2, none⟩ (.slice (some ⟨g, 0, none⟩) F.length cap)) pm bv bk (K, F) ∧ Fix ω w (w.setCell ⟨pm, 2, none⟩ (.slice (some ⟨g, 0, none⟩) F.length cap)) := by
  obtain ⟨fs, h1, h2, h3, h4, h5, h6⟩ := h
  simp only [List.length_append, List.length_cons, List.length_nil, Nat.zero_add, strs_append] at h5
  obtain ⟨g, cap, rfl⟩ : ∃ g cap, fs = .slice (some ⟨g, 0, none⟩) (F.length + 1) cap := by
    rcases h5.2 with ⟨_, h⟩ | ⟨g, cap, cur, rfl, _⟩
    · omega
    · exact ⟨g, cap, rfl⟩
  obtain ⟨o1, o2, o3⟩ := owns_pop (x := str t) h5
  have hgp : g ≠ pm := by
    intro e
    obtain ⟨cur, hc⟩ := row_block h5 (j := g) rfl
    rw [e, h1] at hc; cases hc
  have hbk : bk ≠ pm := by
    intro e
    obtain ⟨D, ⟨es, cl, hb, _⟩, _⟩ := h4
    rw [e, h1] at hb; cases hb
  refine ⟨g, cap, by rw [cell_of_row w pm 2 _ _ _ h1]; rfl, by simp [World.frozen?, h1], o2, o3, ⟨_, set_mind h1, h2, h3, ?_, ?_, ?_⟩, ?_⟩
  · exact h4.kept (Below.heap_setCell _ _ _ _ hbk)
  · exact row_kept o1 (fun j hj => by
      have e : g = j := by simpa [Value.ownBlock] using hj
      subst e
      exact Below.heap_setCell _ _ _ _ hgp)
  · intro j hj
    exact h6 j hj
  · exact Fix.grown (grown_setCell _ _ _) (fun j e _ => by cases e; exact h2)
theorem Kn.empty {ω : Tag} {w : World} {pm bv bk : Nat} {K : List (List UInt8)} (h : Kn ω w pm bv bk (K, [])) : ∃ a cap, w.cell? ⟨pm, 2, none⟩ = some (.slice a 0 cap) := by
  obtain ⟨fs, h1, h2, h3, h4, h5, h6⟩ := h
  obtain ⟨a, cap, rfl, _⟩ := owns_strs h5
  exact ⟨a, cap, by rw [cell_of_row w pm 2 _ _ _ h1]; rfl⟩

/-- What thinking gives. -/
def ThinkPost (ω : Tag) (pm bv bk : Nat) (V : List (List UInt8)) (w : World) (P : St → Prop) (e : Ending) (w' : World) : Prop :=
  e = .returned (.tuple #[]) ∧ ∃ K, P (K, []) ∧ Ok V (K, []) ∧ Later ω pm bv bk w (K, []) w'

set_option maxHeartbeats 8000000 in
theorem think_any (ω : Tag) (pm bv bk : Nat) (σ : St) (V : List (List UInt8)) (E : List (List UInt8 × List UInt8)) (w : World) (h : Kn ω w pm bv bk σ) (hv : View ω w bv V E) (hV : Wide V)
    (hE : ∀ e ∈ E, e.2 ∈ V) (hok : Ok V σ) (hVl : V.length ≤ 8000000) (hwl : ∀ t, (wholes E t).length ≤ 20000000) (P : St → Prop) (hP : P σ)
    (hstep : ∀ K F t, P (K, F ++ [t]) → Ok V (K, F ++ [t]) → P (ptT (tkA (K, F) t) (wholes E t))) :
    Calls Try.prog 26 #[.pointer (some ⟨pm, 0, none⟩)] w (ThinkPost ω pm bv bk V w P) := by
  have Q1 : Aside (∀ w' K, P (K, []) → Ok V (K, []) → Later ω pm bv bk w (K, []) w' → ThinkPost ω pm bv bk V w P (.returned (.tuple #[])) w') := fun w' K h1 h2 h3 => ⟨rfl, K, h1, h2, h3⟩
  generalize ThinkPost ω pm bv bk V w P = Q at Q1 ⊢
  have H0 : Aside (P σ ∧ Ok V σ ∧ Later ω pm bv bk w σ w) := ⟨hP, hok, ω, h, Ext.refl _ _, Fix.refl _ _⟩
  have HV : Aside (∀ ω' wr, Ext w ω ω' → Fix ω w wr → View ω' wr bv V E) := fun ω' wr he hf => hv.fix hf he
  have IN : Aside (Wide V ∧ (∀ e ∈ E, e.2 ∈ V) ∧ V.length ≤ 8000000 ∧ ∀ t, (wholes E t).length ≤ 20000000) := ⟨hV, hE, hVl, hwl⟩
  have ST : Aside (∀ K F t, P (K, F ++ [t]) → Ok V (K, F ++ [t]) → P (ptT (tkA (K, F) t) (wholes E t))) := hstep
  clear h hv hV hE hok hVl hwl hP hstep
  go_enter Try.func26, Try.ntmps26
  go_wp2_with fail
  go_loopg [] (toDo V σ) (fun k wr => ∃ τ, toDo V τ = k ∧ P τ ∧ Ok V τ ∧ Later ω pm bv bk w τ wr)
  case atStart => exact ⟨σ, rfl, H0.out⟩
  case round =>
    obtain ⟨⟨K, F⟩, hk, hp, ho, hl⟩ := hrel
    have S : Aside (toDo V (K, F) = gk ∧ P (K, F) ∧ Ok V (K, F) ∧ Later ω pm bv bk w (K, F) wr) := ⟨hk, hp, ho, hl⟩
    clear hk hp ho hl H0
    rcases List.eq_nil_or_concat F with rfl | ⟨F, t, rfl⟩
    · obtain ⟨-, hp, ho, hl⟩ := S.out
      have Q2 := Q1.out wr K hp ho hl
      obtain ⟨ω1, k1, -, -⟩ := hl
      obtain ⟨a, cap, c2⟩ := k1.empty
      clear S Q1 k1 hp ho
      go_wp2
      exact ⟨rfl, .tuple #[], results_none rfl _ _ _, Q2⟩
    · rw [List.concat_eq_append] at S
      obtain ⟨hk, hp, ho, ω1, k1, e1, f1⟩ := S.out
      obtain ⟨g, cap, c2, z2, ct, hcap, k2, f2⟩ := k1.pop
      have ho2 := ho.pop
      have htV : t ∈ V := ho.sub t (ho.mem t (by simp))
      have hl2 := ho2.len
      have hlF : F.length ≤ 8000000 := Nat.le_trans hl2.2 IN.out.2.2.1
      have LK : Aside (∀ w2, w2 = wr.setCell ⟨pm, 2, none⟩ (.slice (some ⟨g, 0, none⟩) F.length cap) → Calls Try.prog 41 #[.pointer (some ⟨pm, 0, none⟩), str t] w2 (LearnPost ω1 pm bv bk w2 (tkA (K, F) t))) := by
        rintro w2 rfl
        have vm := IN.out.2.2.1
        exact takeApart_any ω1 pm bv bk (K, F) V E t _ k2 ((HV.out ω1 wr e1 f1).fix f2 (Ext.refl _ _)) htV (IN.out.1.good t htV) (by omega) (by omega)
      have LT : Aside (∀ w2 w3, w2 = wr.setCell ⟨pm, 2, none⟩ (.slice (some ⟨g, 0, none⟩) F.length cap) → LearnPost ω1 pm bv bk w2 (tkA (K, F) t) (.returned (.tuple #[])) w3 → Calls Try.prog 42 #[.pointer (some ⟨pm, 0, none⟩), str t] w3 (fun e w' => e = .returned (.tuple #[]) ∧ Later ω pm bv bk w (ptT (tkA (K, F) t) (wholes E t)) w')) := by
        rintro w2 w3 rfl ⟨-, ω3, k3, e3, f3⟩
        have f13 : Fix ω w w3 := (f1.trans e1 f2).trans e1 f3
        have e13 : Ext w ω ω3 := e1.trans (Nat.le_trans f1.size f2.size) e3
        refine (putTogether_any ω3 pm bv bk _ V E t w3 k3 (HV.out ω3 w3 e13 f13) IN.out.1 htV IN.out.2.1 (ho2.tkA IN.out.1 htV) IN.out.2.2.1 (IN.out.2.2.2 t)).mono ?_
        intro e w' hq
        exact later_post e13 f13 hq
      have MS : Aside (toDo V (ptT (tkA (K, F) t) (wholes E t)) < gk ∧ P (ptT (tkA (K, F) t) (wholes E t)) ∧ Ok V (ptT (tkA (K, F) t) (wholes E t))) := by
        have hin : ∀ x ∈ wholes E t, x ∈ V := fun x hx => IN.out.2.1 _ (mem_wholes.1 hx)
        refine ⟨?_, ST.out K F t hp ho, (ho2.tkA IN.out.1 htV).ptT IN.out.1 hin⟩
        have m1 := toDo_ptT (ho2.tkA IN.out.1 htV) IN.out.1 hin
        have m2 := toDo_tkA ho2 IN.out.1 htV
        have m3 : toDo V (K, F) < gk := by rw [← hk]; unfold toDo; simp
        omega
      have q1 : ((F.length + 1 : Nat) : Int) - 1 = (F.length : Int) := by omega
      clear S hk hp ho k1 e1 f1 k2 f2 ho2 htV hl2 HV IN ST Q1
      generalize ptT (tkA (K, F) t) (wholes E t) = τ' at *
      generalize F.length = n at *
      unfold str at ct LK LT
      generalize (⟨t.toArray⟩ : ByteArray) = x at *
      go_wp2_with fail
      refine (LK.out _ rfl).mono ?_
      rintro e w3 hq
      have he := hq.1
      subst he
      have L2 := LT.out _ w3 rfl hq
      clear LK LT hq c2 z2 ct
      go_wp2_with fail
      refine L2.mono ?_
      rintro e w4 ⟨rfl, hl⟩
      have G : Aside (Later ω pm bv bk w τ' w4) := hl
      clear L2 hl
      go_wp2
      go_roundg (toDo V τ')
      case rel => exact ⟨τ', rfl, MS.out.2.1, MS.out.2.2, G.out⟩
      case measure => exact MS.out.1

end Go.Proofs.Ytdpnffnogckfjaa
