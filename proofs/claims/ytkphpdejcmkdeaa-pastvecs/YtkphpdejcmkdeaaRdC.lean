/- What text and float give. -/
import Derived.Test.YtkphpdejcmkdeaaRdB
import Derived.Laws.BytesArg
namespace Go.Proofs.Ytkphpdejcmkdeaa
open Go.RowKit

theorem strOf_bytes (bs : List UInt8) : strOfNums (bs.map fun b => (b.toNat : Int)) = ⟨bs.toArray⟩ := by
  unfold strOfNums
  congr 2
  rw [List.map_map]
  conv => rhs; rw [← List.map_id bs]
  apply List.map_congr_left
  intro b _
  simp

theorem conv_bytes (w : World) (a : Option Addr) (bs : List UInt8) (cap : Nat) (h : AtB w a bs) :
    (convert 54 9 (.slice a bs.length cap)).run Try.prog w = .ok (.string ⟨bs.toArray⟩) w := by
  rcases h with rfl | ⟨b, off, rfl, hc⟩
  · rw [run_convert_bytes_string w 54 9 5 _ _ cap Try.underlying54 Try.underlying5 Try.underlying9]
    cases a with
    | none => simp [Conv.bytesToString]; rfl
    | some ad =>
      have hl : (loadCells ad 0).run Try.prog w = .ok (([] : List Int).map (Value.int .u8)).toArray w := by simpa using run_loadCells_list (P := Try.prog) w ad [] (by simp)
      exact run_bytesToString w ad 0 cap [] hl
  · rw [run_convert_bytes_arg w 54 5 Try.underlying54 Try.underlying5 b off bs.length cap (bs.map fun b => (b.toNat : Int)) (by simp) (fun i hi => by rw [hc i hi]; simp [hi]) 9 Try.underlying9, strOf_bytes]

def encS (s : List UInt8) : Value := .string ⟨s.toArray⟩
def encF (x : Nat) : Value := .float .f64 x

set_option maxHeartbeats 1000000 in
theorem text_any (pb : Nat) (bs : List UInt8) (w : World) (h : Rest w pb bs) :
    Calls Try.prog 63 #[.pointer (some ⟨pb, 0, none⟩)] w (Gives (Pk.textP bs) encS pb w) := by
  have hN := number_any pb bs w h
  clear h
  unfold Pk.textP
  rcases hP : Pk.numP bs with _ | ⟨x, r⟩
  · rw [hP] at hN
    have G : Aside (∀ w', w.grownBy w' (some pb) → Gives (none : Option (List UInt8 × List UInt8)) encS pb w (.panicked gave) w') := fun w' hg => ⟨rfl, hg⟩
    show Calls _ _ _ _ (Gives none encS pb w)
    generalize Gives (none : Option (List UInt8 × List UInt8)) encS pb w = Q at G ⊢
    go_enter Try.func63, Try.ntmps63
    go_wp2_with fail
    refine hN.mono ?_
    rintro e w1 ⟨rfl, hg⟩
    have Q1 := G.out _ hg
    clear G hg hN
    go_wp2
    exact ⟨rfl, Q1⟩
  · rw [hP] at hN
    have hx : x < 18446744073709551616 := (Pk.numP_some hP).1
    simp only
    clear hP
    by_cases h2 : x ≤ 2000
    · by_cases hl : x ≤ r.length
      · rw [if_pos ⟨h2, hl⟩]
        have G : Aside (∀ w', Rest w' pb (r.drop x) → w.grownBy w' (some pb) → Gives (some (r.take x, r.drop x)) encS pb w (.returned (.string ⟨(r.take x).toArray⟩)) w') := fun w' hr hg => ⟨⟨rfl, hr⟩, hg⟩
        generalize Gives (some (r.take x, r.drop x)) encS pb w = Q at G ⊢
        have T : Aside (∀ w1, Rest w1 pb r → _) := fun w1 hr => take_ok pb x r w1 hr hl
        have hlen : Hid ((r.take x).length = x) := by show _ = _; rw [List.length_take]; omega
        generalize r.take x = s at G T hlen
        generalize r.drop x = q at G T
        have t1 : ¬ (2000 : Int) < (x : Int) := by omega
        clear hl
        go_enter Try.func63, Try.ntmps63
        go_wp2_with fail
        refine hN.mono ?_
        rintro e w1 ⟨⟨rfl, hr1⟩, hg1⟩
        have T1 := T.out w1 hr1
        unfold encN
        clear T hr1 hN
        go_wp2_with fail
        refine T1.mono ?_
        rintro e w2 ⟨⟨a, cap, rfl, hcap, hat⟩, hg2, hr2⟩
        have Q1 := G.out w2 hr2 (Lib.grownBy_trans hg1 hg2)
        have hcv := conv_bytes w2 a s cap hat
        rw [hlen.out] at hcv
        clear G hg1 hg2 hr2 T1 hat
        go_wp2
        exact Q1
      · rw [if_neg (fun h => hl h.2)]
        have G : Aside (∀ w', w.grownBy w' (some pb) → Gives (none : Option (List UInt8 × List UInt8)) encS pb w (.panicked gave) w') := fun w' hg => ⟨rfl, hg⟩
        generalize Gives (none : Option (List UInt8 × List UInt8)) encS pb w = Q at G ⊢
        have T : Aside (∀ w1, Rest w1 pb r → _) := fun w1 hr => take_end pb (x : Int) r w1 hr (by omega)
        have t1 : ¬ (2000 : Int) < (x : Int) := by omega
        clear hl
        go_enter Try.func63, Try.ntmps63
        go_wp2_with fail
        refine hN.mono ?_
        rintro e w1 ⟨⟨rfl, hr1⟩, hg1⟩
        have T1 := T.out w1 hr1
        unfold encN
        clear T hr1 hN
        go_wp2_with fail
        refine T1.mono ?_
        rintro e w2 ⟨rfl, hg2⟩
        have Q1 := G.out w2 (Lib.grownBy_trans hg1 hg2)
        clear G hg1 hg2 T1
        go_wp2
        exact ⟨rfl, Q1⟩
    · rw [if_neg (fun h => h2 h.1)]
      have G : Aside (∀ w', w.grownBy w' (some pb) → Gives (none : Option (List UInt8 × List UInt8)) encS pb w (.panicked gave) w') := fun w' hg => ⟨rfl, hg⟩
      generalize Gives (none : Option (List UInt8 × List UInt8)) encS pb w = Q at G ⊢
      have t1 : (2000 : Int) < (x : Int) := by omega
      clear hx
      go_enter Try.func63, Try.ntmps63
      go_wp2_with fail
      refine hN.mono ?_
      rintro e w1 ⟨⟨rfl, hr1⟩, hg1⟩
      have Q1 := G.out _ hg1
      unfold encN
      clear hr1 hN G
      go_wp2_with fail
      refine (giveUp_any _).mono ?_; rintro e w2 ⟨rfl, hw⟩
      replace hw := hw.symm; subst hw
      go_wp2
      exact ⟨rfl, Q1⟩

set_option maxHeartbeats 1000000 in
theorem float_any (pb : Nat) (bs : List UInt8) (w : World) (h : Rest w pb bs) :
    Calls Try.prog 64 #[.pointer (some ⟨pb, 0, none⟩)] w (Gives (Pk.realP bs) encF pb w) := by
  have hL := low_any pb 8 bs w (by omega) h
  clear h
  unfold Pk.realP
  have G1 : Aside (∀ w', bs.length < 8 → w.grownBy w' (some pb) → Gives (if 8 ≤ bs.length ∧ Fl.decOk (Pk.val (bs.take 8)) = true then some (Fl.dec (Pk.val (bs.take 8)), bs.drop 8) else none) encF pb w (.panicked gave) w') := by
    intro w' hl hg
    rw [if_neg (by omega)]
    exact ⟨rfl, hg⟩
  have G2 : Aside (∀ w', Fl.decOk (Pk.val (bs.take 8)) = false → w.grownBy w' (some pb) → Gives (if 8 ≤ bs.length ∧ Fl.decOk (Pk.val (bs.take 8)) = true then some (Fl.dec (Pk.val (bs.take 8)), bs.drop 8) else none) encF pb w (.panicked gave) w') := by
    intro w' hl hg
    rw [if_neg (by rw [hl]; simp)]
    exact ⟨rfl, hg⟩
  have G3 : Aside (∀ w', 8 ≤ bs.length → Fl.decOk (Pk.val (bs.take 8)) = true → Rest w' pb (bs.drop 8) → w.grownBy w' (some pb) → Gives (if 8 ≤ bs.length ∧ Fl.decOk (Pk.val (bs.take 8)) = true then some (Fl.dec (Pk.val (bs.take 8)), bs.drop 8) else none) encF pb w (.returned (.float .f64 (Fl.dec (Pk.val (bs.take 8))))) w') := by
    intro w' hl h2 hr hg
    rw [if_pos ⟨hl, h2⟩]
    exact ⟨⟨rfl, hr⟩, hg⟩
  generalize Gives (if 8 ≤ bs.length ∧ Fl.decOk (Pk.val (bs.take 8)) = true then some (Fl.dec (Pk.val (bs.take 8)), bs.drop 8) else none) encF pb w = Q at G1 G2 G3 ⊢
  have D : Aside (∀ w2, Calls Try.prog 71 #[.int .u64 (Pk.val (bs.take 8) : Nat)] w2 fun e w' => e = .returned (.tuple #[.float .f64 (Fl.dec (Pk.val (bs.take 8))), .bool (Fl.decOk (Pk.val (bs.take 8)))]) ∧ w' = w2) :=
    fun w2 => decode_any _ w2 (Pk.val8_lt _ (by rw [List.length_take]; omega))
  generalize Pk.val (bs.take 8) = x at hL D G1 G2 G3
  generalize Fl.dec x = y at D G3
  generalize Fl.decOk x = ok at D G2 G3
  generalize bs.drop 8 = r at hL G3
  go_enter Try.func64, Try.ntmps64
  go_wp2_with fail
  refine hL.mono ?_
  rintro e w1 ⟨⟨hl, rfl, hr1⟩ | ⟨hl, rfl⟩, hg1⟩
  · have D1 := D.out w1
    clear D hL
    have R1 : Aside (Rest w1 pb r) := hr1
    clear hr1
    cases ok with
    | true =>
      have Q1 := G3.out w1 hl rfl R1.out hg1
      clear G1 G2 G3 hl hg1 R1
      go_wp2_with fail
      refine D1.mono ?_
      rintro e w2 ⟨rfl, hw⟩
      replace hw := hw.symm; subst hw
      go_wp2
      exact Q1
    | false =>
      have Q1 := G2.out w1 rfl hg1
      clear G1 G2 G3 hl hg1 R1
      go_wp2_with fail
      refine D1.mono ?_
      rintro e w2 ⟨rfl, hw⟩
      replace hw := hw.symm; subst hw
      go_wp2_with fail
      refine (giveUp_any _).mono ?_; rintro e w2 ⟨rfl, hw⟩
      replace hw := hw.symm; subst hw
      go_wp2
      exact ⟨rfl, Q1⟩
  · have Q1 := G1.out w1 hl hg1
    clear G1 G2 G3 hl hg1 D hL
    go_wp2
    exact ⟨rfl, Q1⟩

end Go.Proofs.Ytkphpdejcmkdeaa
