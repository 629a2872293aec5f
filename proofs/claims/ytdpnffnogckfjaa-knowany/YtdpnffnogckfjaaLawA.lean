/- KnowAny: the walk. -/
import Derived.Test.YtdpnffnogckfjaaLwE
namespace Go.Proofs.Ytdpnffnogckfjaa
open Go.RowKit

/-- Terms in another order, and one of them twice. -/
def rotL (l : List (List UInt8)) (s j : Nat) : List (List UInt8) := (List.range j).map fun i => l.getD ((i + s) % l.length) []
def mixL (l : List (List UInt8)) (s : Nat) : List (List UInt8) := rotL l s l.length ++ [l.getD 0 []]
theorem rot_step (l : List (List UInt8)) (s j : Nat) (h : (j + s) % l.length < l.length) : rotL l s (j + 1) = rotL l s j ++ [l[(j + s) % l.length]] := by
  unfold rotL
  rw [List.range_succ, List.map_append]
  congr 1
  simp only [List.map_cons, List.map_nil]
  rw [List.getD_eq_getElem?_getD, List.getElem?_eq_getElem h]; rfl
theorem mem_getD {l : List (List UInt8)} {i : Nat} (h : i < l.length) : l.getD i [] ∈ l := by
  rw [List.getD_eq_getElem?_getD, List.getElem?_eq_getElem h]; exact List.getElem_mem h
theorem mem_mix {l : List (List UInt8)} (s : Nat) (h0 : 0 < l.length) (x : List UInt8) : x ∈ l ↔ x ∈ mixL l s := by
  unfold mixL rotL
  simp only [List.mem_append, List.mem_map, List.mem_range, List.mem_singleton]
  constructor
  · intro hx
    obtain ⟨i, hi, rfl⟩ := List.getElem_of_mem hx
    left
    -- the place from which it comes
    refine ⟨(i + (l.length - s % l.length)) % l.length, Nat.mod_lt _ h0, ?_⟩
    have hs := Nat.mod_lt s h0
    have e : ((i + (l.length - s % l.length)) % l.length + s) % l.length = i := by
      rw [Nat.add_mod, Nat.mod_mod, ← Nat.add_mod]
      have h1 : i + (l.length - s % l.length) + s = i + l.length * (s / l.length + 1) := by
        have := Nat.div_add_mod s l.length
        rw [Nat.mul_add, Nat.mul_one]
        omega
      rw [h1, Nat.add_mul_mod_self_left, Nat.mod_eq_of_lt hi]
    rw [e, List.getD_eq_getElem?_getD, List.getElem?_eq_getElem hi]; rfl
  · rintro (⟨i, _, rfl⟩ | rfl)
    · exact mem_getD (Nat.mod_lt _ h0)
    · exact mem_getD h0
theorem mix_good {l : List (List UInt8)} (s : Nat) (h0 : 0 < l.length) (hn : l.length ≤ 20) (h1 : Tm.knownE l = 0) : Tm.knownE (mixL l s) = 0 := by
  unfold Tm.knownE
  have hlen : (mixL l s).length = l.length + 1 := by unfold mixL rotL; simp
  rw [if_neg (by omega)]
  exact Tm.firstErr_zero.2 fun x hx => knownE_good h1 x ((mem_mix s h0 x).2 hx)

set_option maxRecDepth 20000 in
set_option maxHeartbeats 16000000 in
theorem any_main (a : Option Addr) (n cap : Nat) (l : List (List UInt8)) (g : ByteArray) (at9 : Nat) (w : World) (h : IsTerms w a n l) (hat : at9 < 256) (h1 : Tm.knownE l = 0) (t2 : ¬ (400 : Int) < (g.size : Int)) (h3 : Tm.chk g.data.toList = 0) (h4 : 0 < n) (hn20 : n ≤ 20) :
    Calls Try.prog 8 #[.slice a n cap, .string g, .int .u8 (at9 : Int)] w fun e w' => e = .returned (.bool true) ∧ Below w.heap.size w w' := by
  have AL : Aside (∀ W, Below w.heap.size w W → _) := fun W hb => c_alive w W hb
  have FW : Aside (∀ W, Below w.heap.size w W → _) := fun W hb => c_few cap h W hb
  have RT : Aside (∀ W, n ≤ 20 → Below w.heap.size w W → _) := fun W hn hb => c_right cap h W hn hb
  have CG : Aside (∀ W, Below w.heap.size w W → Calls Try.prog 19 #[.string g] W fun e w' => e = .returned (.int .i64 (Tm.chk g.data.toList : Nat)) ∧ Below w.heap.size w w') := fun W hb => c_chk g W hb
  have hl0 : 0 < l.length := by rw [h.1]; exact h4
  have hmk := mix_good at9 hl0 (by rw [h.1]; exact hn20) h1
  have hsame : Tm.derives (mixL l at9) g.data.toList = Tm.derives l g.data.toList := by
    rw [(der_good hmk h3).2, (der_good h1 h3).2]
    exact (Tm.can_same (knownE_good h1) (knownE_good hmk) h3 (mem_mix at9 hl0)).symm
  have hks : Tm.knownL (mixL l at9) = Tm.knownL l := by
    unfold Tm.knownL
    rw [if_pos hmk, if_pos h1]
    exact (Tm.known_same (knownE_good h1) (knownE_good hmk) (mem_mix at9 hl0)).symm
  have DL : Aside (∀ W, Below w.heap.size w W → Calls Try.prog 15 #[.slice a n cap, .string g] W fun e w' => e = .returned (.tuple #[.bool (Tm.derives l g.data.toList), .int .i64 0]) ∧ Below W.heap.size W w') := fun W hb => by
    refine (derives_any a n cap l g.data.toList W h.1 (atS_later hb h.2.2.1)).mono ?_
    rintro e w' ⟨he, hb2⟩
    rw [(der_good h1 h3).1] at he
    exact ⟨he, hb2⟩
  have DM : Aside (∀ W ma mn mc, (mixL l at9).length = mn → AtS W ma (mixL l at9) → Calls Try.prog 15 #[.slice ma mn mc, .string g] W fun e w' => e = .returned (.tuple #[.bool (Tm.derives l g.data.toList), .int .i64 0]) ∧ Below W.heap.size W w') := fun W ma mn mc hmn hm => by
    refine (derives_any ma mn mc (mixL l at9) g.data.toList W hmn hm).mono ?_
    rintro e w' ⟨he, hb2⟩
    rw [(der_good hmk h3).1, hsame] at he
    exact ⟨he, hb2⟩
  have KL : Aside (∀ W, Below w.heap.size w W → Calls Try.prog 13 #[.slice a n cap] W fun e w' => ∃ ka kc, e = .returned (.tuple #[.slice ka (Tm.knownL l).length kc, .int .i64 0]) ∧ AtS w' ka (Tm.knownL l) ∧ Below W.heap.size W w') := fun W hb => by
    have := d_known cap h.1 W (atS_later hb h.2.2.1)
    rw [h1] at this
    exact this
  have KM : Aside (∀ W ma mn mc, (mixL l at9).length = mn → AtS W ma (mixL l at9) → Calls Try.prog 13 #[.slice ma mn mc] W fun e w' => ∃ ka kc, e = .returned (.tuple #[.slice ka (Tm.knownL l).length kc, .int .i64 0]) ∧ AtS w' ka (Tm.knownL l) ∧ Below W.heap.size W w') := fun W ma mn mc hmn hm => by
    have := d_known mc hmn W hm
    rw [hmk, hks] at this
    exact this
  have HN : Hid (l.length = n) := h.1
  have AT : Aside (AtS w a l) := h.2.2.1
  obtain ⟨i0, hi, hz0, hz1, hz2⟩ := info_parts info22
  have I : Aside (Try.prog.info? 23 = some i0 ∧ i0.zero = some (.string ⟨#[]⟩) ∧ i0.size = 1 ∧ i0.bytes = 16) := ⟨hi, hz0, hz1, hz2⟩
  have t4 : ((n : Int) == 0) = false := by
    have : ¬ (n : Int) = 0 := by omega
    simpa using this
  rw [decide_eq_true h1] at RT
  rw [h3] at CG
  clear h h1 h3 hl0 hmk hsame hks hi hz0 hz1 hz2
  go_enter Try.func8, Try.ntmps8
  go_wp2_with fail
  refine (AL.out w (Below.refl _ _)).mono ?_
  rintro e w1 ⟨rfl, b1⟩
  have B1 : Aside (Below w.heap.size w w1) := b1
  clear b1 AL
  go_wp2_with fail
  refine (FW.out w1 B1.out).mono ?_
  rintro e w2 ⟨b, rfl, h20, b2⟩
  have B2 : Aside (Below w.heap.size w w2) := b2
  clear b2 B1
  cases b with
  | false =>
    go_wp2
    go_ret
    exact ⟨rfl, B2.out⟩
  | true =>
    have n20 := h20 rfl
    clear h20
    clear FW
    go_wp2_with fail
    refine ((fun W hb => RT.out W n20 hb) w2 B2.out).mono ?_
    rintro e w3 ⟨rfl, b3⟩
    have B3 : Aside (Below w.heap.size w w3) := b3
    clear b3 B2 RT
    go_wp2_with fail
    refine (CG.out w3 B3.out).mono ?_
    rintro e w4 ⟨rfl, b4⟩
    have B4 : Aside (Below w.heap.size w w4) := b4
    clear b4 B3 CG
    go_wp2_with fail
    go_loopw [7, 44] (fun v i wr => ∃ j : Nat, j ≤ n ∧ i = .int .i64 j ∧ wr.ownsRow w.heap.size 23 1 v j (strs (rotL l at9 j)) ∧ Below w.heap.size w wr) (fun _ i _ => n - (intOf i).toNat)
    case atStart => exact ⟨0, Nat.zero_le _, rfl, World.ownsRow_nil _ _ _ _, B4.out⟩
    case round =>
      obtain ⟨j, hj, rfl, hown, hb⟩ := hrel
      have S : Aside (wr.ownsRow w.heap.size 23 1 u7 j (strs (rotL l at9 j)) ∧ Below w.heap.size w wr) := ⟨hown, hb⟩
      clear hown hb B4
      by_cases hlt : j < n
      · obtain ⟨q, hq⟩ : ∃ q, q = (j + at9) % n := ⟨_, rfl⟩
        have hqn : q < n := by rw [hq]; exact Nat.mod_lt _ (by omega)
        have hql : q < l.length := by rw [HN.out]; exact hqn
        have hqi : ((j : Int) + (at9 : Int)).tmod (n : Int) = (q : Int) := by
          rw [hq, show ((j : Int) + (at9 : Int)) = ((j + at9 : Nat) : Int) by omega]
          rfl
        obtain ⟨b, off, rfl, hcs⟩ : ∃ b off, a = some ⟨b, off, none⟩ ∧ ∀ i y, l[i]? = some y → wr.cell? ⟨b, off + i, none⟩ = some (str y) := by
          rcases atS_later S.out.2 AT.out with e | h
          · rw [e] at hql; simp at hql
          · exact h
        have c0 := hcs q l[q] (List.getElem?_eq_getElem hql)
        have F : Aside (strs (rotL l at9 j) ++ [str l[q]] = strs (rotL l at9 (j + 1))) := by
          show _ = _
          rw [rot_step l at9 j (by rw [HN.out, ← hq]; exact hqn), strs_append]
          congr 2
          simp only [HN.out, ← hq]
        have u1 : (j : Int) < (n : Int) := by omega
        have u0 : (0 : Int) ≤ (j : Int) := by omega
        have q0 : (0 : Int) ≤ (q : Int) := by omega
        have q1 : (q : Int) < (n : Int) := by omega
        have O1 : Aside (wr.ownsRow w.heap.size 23 1 u7 j (strs (rotL l at9 j)) ∧ Below w.heap.size w wr) := S.out
        have hs2 : w.heap.size ≤ wr.heap.size := S.out.2.size
        clear hcs S hq
        unfold str at c0 F
        generalize (⟨l[q].toArray⟩ : ByteArray) = x at *
        generalize strs (rotL l at9 j) = xs at *
        go_wp2_with (at_builtin; refine wpList_append_own _ rfl _ _ 22 rfl w.heap.size 23 i0 (.string ⟨#[]⟩) 1 16 Try.underlying22 I.out.1 I.out.2.1 I.out.2.2.1 I.out.2.2.2 rfl (by decide) _ _ _ rfl (O1.out.1.alloc _) ⟨wr.heap.size, 0, none⟩ 1 1 [.string x] rfl rfl ?c1 ?c2 ?c3 ?c4 ?c5 ?_)
        case c1 => exact cell_new1 _ _ _
        case c2 => intro u hu; simp at hu; subst hu; rfl
        case c3 => unfold maxLen; omega
        case c4 => omega
        case c5 => simp; omega
        intro v3 w3 hown3 hgrow3 _
        rw [F.out] at hown3
        have hb3 : Below w.heap.size w w3 := grown_below hs2 O1.out.1 O1.out.2 hgrow3
        clear hgrow3 O1 c0
        go_wp2
        go_roundw
        case rel => exact ⟨j + 1, by omega, by go_num, hown3, hb3⟩
        case measure => simp [intOf]; omega
      · obtain rfl : j = n := by omega
        have h0l : 0 < l.length := by rw [HN.out]; omega
        obtain ⟨b, off, rfl, hcs⟩ : ∃ b off, a = some ⟨b, off, none⟩ ∧ ∀ i y, l[i]? = some y → wr.cell? ⟨b, off + i, none⟩ = some (str y) := by
          rcases atS_later S.out.2 AT.out with e | h
          · rw [e] at h0l; simp at h0l
          · exact h
        have c0 := hcs 0 l[0] (List.getElem?_eq_getElem h0l)
        rw [Nat.add_zero] at c0
        have F : Aside (strs (rotL l at9 j) ++ [str l[0]] = strs (rotL l at9 j ++ [l[0]])) := by
          show _ = _
          rw [strs_append]; rfl
        have RE : Aside (rotL l at9 j ++ [l[0]] = mixL l at9) := by
          show _ = _
          unfold mixL
          rw [HN.out]
          congr 1
          rw [List.getD_eq_getElem?_getD, List.getElem?_eq_getElem h0l]; rfl
        have j0 : (0 : Int) < (j : Int) := by omega
        have O1 : Aside (wr.ownsRow w.heap.size 23 1 u7 j (strs (rotL l at9 j)) ∧ Below w.heap.size w wr) := S.out
        have hs2 : w.heap.size ≤ wr.heap.size := S.out.2.size
        clear hcs S
        unfold str at c0 F
        generalize (⟨l[0].toArray⟩ : ByteArray) = x at *
        generalize strs (rotL l at9 j) = xs at *
        go_wp2_with (at_builtin; refine wpList_append_own _ rfl _ _ 22 rfl w.heap.size 23 i0 (.string ⟨#[]⟩) 1 16 Try.underlying22 I.out.1 I.out.2.1 I.out.2.2.1 I.out.2.2.2 rfl (by decide) _ _ _ rfl (O1.out.1.alloc _) ⟨wr.heap.size, 0, none⟩ 1 1 [.string x] rfl rfl ?c1 ?c2 ?c3 ?c4 ?c5 ?_)
        case c1 => exact cell_new1 _ _ _
        case c2 => intro u hu; simp at hu; subst hu; rfl
        case c3 => unfold maxLen; omega
        case c4 => omega
        case c5 => simp; omega
        intro v3 w3 hown3 hgrow3 _
        rw [F.out, RE.out] at hown3
        have hb3 : Below w.heap.size w w3 := grown_below hs2 O1.out.1 O1.out.2 hgrow3
        obtain ⟨ma, mc, rfl, hml, -, hmat⟩ := owns_strs hown3
        have M3 : Aside (AtS w3 ma (mixL l at9) ∧ Below w.heap.size w w3 ∧ (mixL l at9).length = j + 1) := ⟨hmat, hb3, hml⟩
        clear hgrow3 O1 c0 hown3 hb3 hml hmat F RE
        have E1 := DL.out w3 M3.out.2.1
        go_wp2_with fail
        refine E1.mono ?_
        rintro e w4 ⟨rfl, b4⟩
        have M4 : Aside (AtS w4 ma (mixL l at9) ∧ Below w.heap.size w w4) := ⟨atS_later b4 M3.out.1, later2 M3.out.2.1 b4⟩
        have E2 := DM.out w4 ma (j + 1) mc M3.out.2.2 M4.out.1
        clear b4 E1 DL DM
        go_wp2_with fail
        refine E2.mono ?_
        rintro e w5 ⟨rfl, b5⟩
        have M5 : Aside (AtS w5 ma (mixL l at9) ∧ Below w.heap.size w w5) := ⟨atS_later b5 M4.out.1, later2 M4.out.2 b5⟩
        have E3 := KL.out w5 M5.out.2
        clear b5 E2 M4 KL
        go_wp2_with fail
        refine E3.mono ?_
        rintro e w6 ⟨ka, kc, rfl, hat6, b6⟩
        have M6 : Aside (AtS w6 ma (mixL l at9) ∧ Below w.heap.size w w6 ∧ AtS w6 ka (Tm.knownL l)) := ⟨atS_later b6 M5.out.1, later2 M5.out.2 b6, hat6⟩
        have E4 := KM.out w6 ma (j + 1) mc M3.out.2.2 M6.out.1
        clear b6 E3 M5 hat6 KM M3
        go_wp2_with fail
        refine E4.mono ?_
        rintro e w7 ⟨kb, kd, rfl, hat7, b7⟩
        have M7 : Aside (Below w.heap.size w w7 ∧ AtS w7 ka (Tm.knownL l) ∧ AtS w7 kb (Tm.knownL l)) := ⟨later2 M6.out.2.1 b7, atS_later b7 M6.out.2.2, hat7⟩
        have E5 := same_big ka kb (Tm.knownL l).length kc (Tm.knownL l).length kd (Tm.knownL l) (Tm.knownL l) w7 rfl rfl M7.out.2.1 M7.out.2.2 (known_len l)
        rw [decide_eq_true rfl] at E5
        have B7 : Aside (Below w.heap.size w w7) := M7.out.1
        clear E4 b7 hat7 M6 M7
        generalize (Tm.knownL l).length = kn at *
        generalize Tm.derives l g.data.toList = dd at *
        go_wp2_with fail
        refine E5.mono ?_
        rintro e w8 ⟨rfl, b8⟩
        have B8 : Aside (Below w.heap.size w w8) := later2 B7.out b8
        clear E5 b8 B7
        go_wp2
        go_ret
        exact ⟨rfl, B8.out⟩

set_option maxRecDepth 20000 in
set_option maxHeartbeats 8000000 in
theorem any_walk (a : Option Addr) (n cap : Nat) (l : List (List UInt8)) (g : ByteArray) (at9 : Nat) (w : World) (h : IsTerms w a n l) (hat : at9 < 256) :
    Calls Try.prog 8 #[.slice a n cap, .string g, .int .u8 (at9 : Int)] w fun e w' => e = .returned (.bool true) ∧ Below w.heap.size w w' := by
  have AL : Aside (∀ W, Below w.heap.size w W → _) := fun W hb => c_alive w W hb
  have FW : Aside (∀ W, Below w.heap.size w W → _) := fun W hb => c_few cap h W hb
  have RT : Aside (∀ W, n ≤ 20 → Below w.heap.size w W → _) := fun W hn hb => c_right cap h W hn hb
  have CG : Aside (∀ W, Below w.heap.size w W → Calls Try.prog 19 #[.string g] W fun e w' => e = .returned (.int .i64 (Tm.chk g.data.toList : Nat)) ∧ Below w.heap.size w w') := fun W hb => c_chk g W hb
  by_cases h1 : Tm.knownE l = 0
  · by_cases h2 : 400 < g.size
    · have t2 : (400 : Int) < (g.size : Int) := by omega
      rw [decide_eq_true h1] at RT
      clear h h1 h2 CG
      go_enter Try.func8, Try.ntmps8
      go_wp2_with fail
      refine (AL.out w (Below.refl _ _)).mono ?_
      rintro e w1 ⟨rfl, b1⟩
      have B1 : Aside (Below w.heap.size w w1) := b1
      clear b1 AL
      go_wp2_with fail
      refine (FW.out w1 B1.out).mono ?_
      rintro e w2 ⟨b, rfl, h20, b2⟩
      have B2 : Aside (Below w.heap.size w w2) := b2
      clear b2 B1
      cases b with
      | false =>
        go_wp2
        go_ret
        exact ⟨rfl, B2.out⟩
      | true =>
        have n20 := h20 rfl
        clear h20
        clear FW
        go_wp2_with fail
        refine ((fun W hb => RT.out W n20 hb) w2 B2.out).mono ?_
        rintro e w3 ⟨rfl, b3⟩
        have B3 : Aside (Below w.heap.size w w3) := b3
        clear b3 B2 RT
        go_wp2
        go_ret
        exact ⟨rfl, B3.out⟩
    · have t2 : ¬ (400 : Int) < (g.size : Int) := by omega
      by_cases h3 : Tm.chk g.data.toList = 0
      · by_cases h4 : n = 0
        · subst h4
          rw [decide_eq_true h1] at RT
          rw [h3] at CG
          clear h h1 h2 h3
          go_enter Try.func8, Try.ntmps8
          go_wp2_with fail
          refine (AL.out w (Below.refl _ _)).mono ?_
          rintro e w1 ⟨rfl, b1⟩
          have B1 : Aside (Below w.heap.size w w1) := b1
          clear b1 AL
          go_wp2_with fail
          refine (FW.out w1 B1.out).mono ?_
          rintro e w2 ⟨b, rfl, h20, b2⟩
          have B2 : Aside (Below w.heap.size w w2) := b2
          clear b2 B1
          cases b with
          | false =>
            go_wp2
            go_ret
            exact ⟨rfl, B2.out⟩
          | true =>
            have n20 := h20 rfl
            clear h20
            clear FW
            go_wp2_with fail
            refine ((fun W hb => RT.out W n20 hb) w2 B2.out).mono ?_
            rintro e w3 ⟨rfl, b3⟩
            have B3 : Aside (Below w.heap.size w w3) := b3
            clear b3 B2 RT
            go_wp2_with fail
            refine (CG.out w3 B3.out).mono ?_
            rintro e w4 ⟨rfl, b4⟩
            have B4 : Aside (Below w.heap.size w w4) := b4
            clear b4 B3 CG
            go_wp2
            go_ret
            exact ⟨rfl, B4.out⟩
        · by_cases h20 : n ≤ 20
          · exact any_main a n cap l g at9 w h hat h1 t2 h3 (by omega) h20
          · -- Few says no
            have FW2 : Aside (∀ W, Below w.heap.size w W → Calls Try.prog 12 #[.slice a n cap] W fun e w' => e = .returned (.bool false) ∧ Below w.heap.size w w') := fun W hb => (FW.out W hb).mono fun _ _ ⟨b, e1, e2, e3⟩ => by
              cases b with
              | false => exact ⟨e1, e3⟩
              | true => exact absurd (e2 rfl) h20
            clear h h1 h2 h3 h4 h20 FW RT CG
            go_enter Try.func8, Try.ntmps8
            go_wp2_with fail
            refine (AL.out w (Below.refl _ _)).mono ?_
            rintro e w1 ⟨rfl, b1⟩
            have B1 : Aside (Below w.heap.size w w1) := b1
            clear b1 AL
            go_wp2_with fail
            refine (FW2.out w1 B1.out).mono ?_
            rintro e w2 ⟨rfl, b2⟩
            have B2 : Aside (Below w.heap.size w w2) := b2
            clear b2 B1 FW2
            go_wp2
            go_ret
            exact ⟨rfl, B2.out⟩
      · have t3 := ne_zero h3
        rw [decide_eq_true h1] at RT
        clear h h1 h2 h3
        generalize Tm.chk g.data.toList = c at *
        go_enter Try.func8, Try.ntmps8
        go_wp2_with fail
        refine (AL.out w (Below.refl _ _)).mono ?_
        rintro e w1 ⟨rfl, b1⟩
        have B1 : Aside (Below w.heap.size w w1) := b1
        clear b1 AL
        go_wp2_with fail
        refine (FW.out w1 B1.out).mono ?_
        rintro e w2 ⟨b, rfl, h20, b2⟩
        have B2 : Aside (Below w.heap.size w w2) := b2
        clear b2 B1
        cases b with
        | false =>
          go_wp2
          go_ret
          exact ⟨rfl, B2.out⟩
        | true =>
          have n20 := h20 rfl
          clear h20
          clear FW
          go_wp2_with fail
          refine ((fun W hb => RT.out W n20 hb) w2 B2.out).mono ?_
          rintro e w3 ⟨rfl, b3⟩
          have B3 : Aside (Below w.heap.size w w3) := b3
          clear b3 B2 RT
          go_wp2_with fail
          refine (CG.out w3 B3.out).mono ?_
          rintro e w4 ⟨rfl, b4⟩
          have B4 : Aside (Below w.heap.size w w4) := b4
          clear b4 B3 CG
          go_wp2
          go_ret
          exact ⟨rfl, B4.out⟩
  · rw [decide_eq_false h1] at RT
    clear h h1 CG
    go_enter Try.func8, Try.ntmps8
    go_wp2_with fail
    refine (AL.out w (Below.refl _ _)).mono ?_
    rintro e w1 ⟨rfl, b1⟩
    have B1 : Aside (Below w.heap.size w w1) := b1
    clear b1 AL
    go_wp2_with fail
    refine (FW.out w1 B1.out).mono ?_
    rintro e w2 ⟨b, rfl, h20, b2⟩
    have B2 : Aside (Below w.heap.size w w2) := b2
    clear b2 B1
    cases b with
    | false =>
      go_wp2
      go_ret
      exact ⟨rfl, B2.out⟩
    | true =>
      have n20 := h20 rfl
      clear h20
      clear FW
      go_wp2_with fail
      refine ((fun W hb => RT.out W n20 hb) w2 B2.out).mono ?_
      rintro e w3 ⟨rfl, b3⟩
      have B3 : Aside (Below w.heap.size w w3) := b3
      clear b3 B2 RT
      go_wp2
      go_ret
      exact ⟨rfl, B3.out⟩

theorem any_law (a : Option Addr) (n cap : Nat) (l : List (List UInt8)) (g : ByteArray) (k : Int) (w : World) (h : IsTerms w a n l) (hk : (Lit.int .u8 k).wf = true) :
    Calls Try.prog 8 #[.slice a n cap, .string g, .int .u8 k] w fun e w' => e = .returned (.bool true) ∧ Below w.heap.size w w' := by
  have b0 : 0 ≤ k ∧ k ≤ 255 := bounds_u8 hk
  obtain ⟨m, rfl⟩ : ∃ m : Nat, k = (m : Int) := ⟨k.toNat, by omega⟩
  exact any_walk a n cap l g m w h (by omega)

end Go.Proofs.Ytdpnffnogckfjaa
