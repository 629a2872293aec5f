/- What the document's own low and number give: the bytes of a number. -/
import Derived.Test.YtkphpdejcmkdeaaOwn2
import Derived.Laws.AppendOwnNone
namespace Go.Proofs.Ytkphpdejcmkdeaa
open Go.RowKit

/-- An append of a row of one's own to a row of one's own. -/
theorem wpList_append_owns {P : Program} (w : World) {ops : Array Oper} {rest : List Oper} {o : Oper} {a : Act} {Q : Exit → Act → World → Prop} (hgd : o.guard = none) (s x : Operand) (t : TypeId)
    (ho : o.op = .call { callee := .builtin .append, args := #[s, x], argTypes := #[t, t] })
    (base base' : Nat) (e : TypeId) (i : TypeInfo) (z : Value) (size bytes : Nat) (ht : P.underlying t = some (.slice e)) (hi : P.info? e = some i) (hz : i.zero = some z)
    (hsize : i.size = size) (hby : i.bytes = bytes) (hzs : z.cells.size = size) (hsz : 0 < size)
    (v : Value) (n : Nat) (xs : List Value) (hs : a.eval s = v) (hown : w.ownsRow base e size v n xs)
    (y : Value) (m : Nat) (news : List Value) (hx : a.eval x = y) (hsrc : w.ownsRow base' e size y m news) (h1 : ∀ u ∈ news, u.oneCell' = true)
    (h63 : n + m ≤ maxLen) (hbytes : (n + m) * bytes ≤ 140737488355328) (hbase : base ≤ w.heap.size)
    (h : ∀ v' w', w'.ownsRow base e size v' (n + m) (xs ++ news) → w.grownBy w' v.ownBlock → wpList P ops Q rest (a.put o.dst v') w') : wpList P ops Q (o :: rest) a w := by
  rcases hsrc.2 with ⟨rfl, h0⟩ | ⟨g, gc, cur, rfl, _⟩
  · refine wpList_append_own_none hgd s x t ho base e i size ht hi v n xs hs hown hx ?_
    have hnil : news = [] := List.eq_nil_of_length_eq_zero (by rw [hsrc.1, h0, Nat.zero_mul])
    refine h v w ?_ (World.grownBy.refl _ _)
    rw [h0, hnil, List.append_nil]
    exact hown
  · exact wpList_append_own w hgd s x t ho base e i z size bytes ht hi hz hsize hby hzs hsz v n xs hs hown ⟨g, 0, none⟩ m gc news hx hsrc.1 (fun j u hu => hsrc.cells (g := g) rfl j u hu) h1 h63 hbytes hbase (fun v' w' a1 a2 _ => h v' w' a1 a2)

theorem bcs_one {bs : List UInt8} : ∀ u ∈ bcs bs, u.oneCell' = true := by
  intro u hu
  unfold bcs at hu
  simp at hu
  obtain ⟨_, _, rfl⟩ := hu
  rfl

theorem bcs_len (bs : List UInt8) : (bcs bs).length = bs.length := by unfold bcs; rw [List.length_map]

theorem low_byte (bs : List UInt8) (x k : Nat) : bcs (bs ++ Pk.lo x (k + 1)) = bcs (bs ++ Pk.lo x k) ++ [.int .u8 (((x / 256 ^ k : Nat) : Int) % 256)] := by
  rw [lo_next, ← List.append_assoc, bcs_append, ← byte_cell]
  rfl

theorem wrap_quo (y : Nat) (h : y < 18446744073709551616) : IntKind.u64.wrap ((y : Int) / 256) = (y : Int) / 256 := by rw [IntKind.wrap_u64]; omega
theorem quo_lt {x : Nat} (k : Nat) (h : x < 18446744073709551616) : x / 256 ^ k < 18446744073709551616 := Nat.lt_of_le_of_lt (Nat.div_le_self _ _) h

set_option maxRecDepth 20000 in
set_option maxHeartbeats 1000000 in
theorem rlow_any (x m : Nat) (w : World) (hm : m ≤ 8) (hx : x < 18446744073709551616) :
    Calls Try.prog 59 #[.int .u64 (x : Int), .int .i64 (m : Nat)] w fun e w' => ∃ v, e = .returned v ∧ w'.ownsRow w.heap.size 5 1 v m (bcs (Pk.lo x m)) ∧ Below w.heap.size w w' := by
  obtain ⟨i0, hi, hz0, hz1, hz2⟩ := info_parts info5
  have I : Aside (Try.prog.info? 5 = some i0 ∧ i0.zero = some (.int .u8 0) ∧ i0.size = 1 ∧ i0.bytes = 1) := ⟨hi, hz0, hz1, hz2⟩
  have X : Aside (x < 18446744073709551616) := hx
  clear hi hz0 hz1 hz2 hx
  go_enter Try.func59, Try.ntmps59
  go_wp2_with fail
  go_loopw [0, 5, 6] (fun y v i wr => ∃ k : Nat, k ≤ m ∧ y = .int .u64 ((x / 256 ^ k : Nat) : Int) ∧ i = .int .i64 k ∧ wr.ownsRow w.heap.size 5 1 v k (bcs (Pk.lo x k)) ∧ Below w.heap.size w wr) (fun _ _ i _ => m - (intOf i).toNat)
  case atStart => exact ⟨0, Nat.zero_le _, by simp, rfl, World.ownsRow_nil _ _ _ _, Below.refl _ _⟩
  case round =>
    obtain ⟨k, hk, rfl, rfl, hown, hb⟩ := hrel
    by_cases hlt : k < m
    · have hsn : Hid (_ = _) := low_byte [] x k
      have hdv : Hid (((x / 256 ^ (k + 1) : Nat) : Int) = ((x / 256 ^ k : Nat) : Int) / 256) := by
        show _ = _
        rw [Nat.pow_succ, ← Nat.div_div_eq_div_mul]
        simp
      have Z : Aside (x / 256 ^ k < 18446744073709551616) := quo_lt k X.out
      generalize x / 256 ^ k = y at hsn hdv Z
      go_wp2_with (at_builtin; refine wpList_append_own _ rfl _ _ 54 rfl w.heap.size 5 i0 (.int .u8 0) 1 1 Try.underlying54 I.out.1 I.out.2.1 I.out.2.2.1 I.out.2.2.2 rfl (by decide) _ _ _ rfl (hown.alloc _) ⟨wr.heap.size, 0, none⟩ 1 1 [.int .u8 ((y : Int) % 256)] rfl rfl ?c1 ?c2 ?c3 ?c4 ?c5 ?_)
      case c1 => exact cell_one_new _ _ _
      case c2 => intro u hu; simp at hu; subst hu; rfl
      case c3 => unfold maxLen; omega
      case c4 => omega
      case c5 => have := hb.size; simp; omega
      intro v' w2 hown' hgrow _
      have hbn := grown_below hb.size hown hb hgrow
      have hown2 : w2.ownsRow w.heap.size 5 1 v' (k + 1) (bcs (Pk.lo x (k + 1))) := by
        have := hsn.out
        simp only [List.nil_append] at this
        rw [this]; exact hown'
      clear hown hgrow hb hown'
      go_wp2
      go_roundw
      case rel => exact ⟨k + 1, by omega, by rw [hdv.out, wrap_quo y Z.out], by go_num, hown2, hbn⟩
      case measure => simp [intOf]; omega
    · obtain rfl : k = m := by omega
      go_wp2
      go_ret
      exact ⟨_, rfl, hown, hb⟩

theorem nb_eq {x k : Nat} (hx : x < 18446744073709551616) (h1 : x < 256 ^ k) (h2 : k = 0 ∨ 256 ^ (k - 1) ≤ x) : Pk.nb x = k := by
  have g1 := Pk.lt_nb x hx
  have up : Pk.nb x ≤ k := by
    by_cases h0 : x = 0
    · subst h0; rw [Pk.nb_zero]; omega
    · have h3 := Pk.nb_ge x hx h0
      have : 256 ^ (Pk.nb x - 1) < 256 ^ k := by omega
      have := (Nat.pow_lt_pow_iff_right (by omega : 1 < 256)).1 this
      omega
  rcases h2 with h2 | h2
  · omega
  · have : 256 ^ (k - 1) < 256 ^ Pk.nb x := by omega
    have := (Nat.pow_lt_pow_iff_right (by omega : 1 < 256)).1 this
    omega

set_option maxRecDepth 20000 in
set_option maxHeartbeats 1000000 in
theorem rnumber_any (x : Nat) (w : World) (hx : x < 18446744073709551616) :
    Calls Try.prog 58 #[.int .u64 (x : Int)] w fun e w' => ∃ v, e = .returned v ∧ w'.ownsRow w.heap.size 5 1 v (Pk.numB x).length (bcs (Pk.numB x)) ∧ Below w.heap.size w w' := by
  obtain ⟨i0, hi, hz0, hz1, hz2⟩ := info_parts info5
  have I : Aside (Try.prog.info? 5 = some i0 ∧ i0.zero = some (.int .u8 0) ∧ i0.size = 1 ∧ i0.bytes = 1) := ⟨hi, hz0, hz1, hz2⟩
  have X : Aside (x < 18446744073709551616) := hx
  generalize hQ : (fun (e : Ending) (w' : World) => ∃ v, e = .returned v ∧ w'.ownsRow w.heap.size 5 1 v (Pk.numB x).length (bcs (Pk.numB x)) ∧ Below w.heap.size w w') = Q
  have R : Aside (∀ k v w', k ≤ 8 → Pk.nb x = k → w'.ownsRow w.heap.size 5 1 v (1 + k) ([Value.int .u8 (k : Int)] ++ bcs (Pk.lo x k)) → Below w.heap.size w w' → Q (.returned v) w') := by
    intro k v w' hk hnb h1 h2
    rw [← hQ]
    refine ⟨v, rfl, ?_, h2⟩
    have e1 : (Pk.numB x).length = 1 + k := by rw [numB_length, hnb]
    have e2 : bcs (Pk.numB x) = [Value.int .u8 (k : Int)] ++ bcs (Pk.lo x k) := by
      unfold Pk.numB
      rw [hnb]
      show Value.int .u8 _ :: _ = _
      rw [byte_cell]
      have : (k : Int) % 256 = (k : Int) := by omega
      rw [this]
      rfl
    rw [e1, e2]
    exact h1
  clear hi hz0 hz1 hz2 hx hQ
  go_enter Try.func58, Try.ntmps58
  go_wp2_with fail
  go_loopw [3, 4] (fun s y wr => ∃ k : Nat, k ≤ 8 ∧ s = .int .i64 k ∧ y = .int .u64 ((x / 256 ^ k : Nat) : Int) ∧ (k = 0 ∨ 256 ^ (k - 1) ≤ x) ∧ wr = w) (fun s _ _ => 8 - (intOf s).toNat)
  case atStart => exact ⟨0, by omega, rfl, by simp, .inl rfl, rfl⟩
  case round =>
    obtain ⟨k, hk, rfl, rfl, hge, hwr⟩ := hrel
    subst hwr
    have G : Aside (k = 0 ∨ 256 ^ (k - 1) ≤ x) := hge
    clear hge
    by_cases h0 : 0 < x / 256 ^ k
    · have k8 : k < 8 := by
        rcases Nat.lt_or_ge k 8 with h | h
        · exact h
        · exfalso
          obtain rfl : k = 8 := by omega
          have : x / 256 ^ 8 = 0 := Nat.div_eq_of_lt (by have := X.out; omega)
          omega
      have G2 : Aside (k + 1 = 0 ∨ 256 ^ (k + 1 - 1) ≤ x) := by
        right
        rw [Nat.add_sub_cancel]
        have := Nat.div_mul_le_self x (256 ^ k)
        have : 1 * 256 ^ k ≤ x / 256 ^ k * 256 ^ k := Nat.mul_le_mul_right _ h0
        omega
      have hdv : Hid (((x / 256 ^ (k + 1) : Nat) : Int) = ((x / 256 ^ k : Nat) : Int) / 256) := by
        show _ = _
        rw [Nat.pow_succ, ← Nat.div_div_eq_div_mul]
        simp
      have Z : Aside (x / 256 ^ k < 18446744073709551616) := quo_lt k X.out
      generalize x / 256 ^ k = y at h0 hdv Z
      have h0' : (0 : Int) < (y : Int) := by omega
      go_wp2
      go_roundw
      case rel => exact ⟨k + 1, by omega, by go_num, by rw [hdv.out, wrap_quo y Z.out], G2.out, by first | rfl | trivial⟩
      case measure => simp [intOf]; omega
    · have e0 : x / 256 ^ k = 0 := Nat.eq_zero_of_not_pos h0
      have hlt : x < 256 ^ k := by
        rcases Nat.lt_or_ge x (256 ^ k) with h | h
        · exact h
        · have := Nat.div_pos h (Nat.pow_pos (by omega)); omega
      have hnb : Pk.nb x = k := nb_eq X.out hlt G.out
      have R1 : Aside (∀ v w', wr.ownsRow 0 5 1 (.slice none 0 0) 0 [] → w'.ownsRow wr.heap.size 5 1 v (1 + k) ([Value.int .u8 (k : Int)] ++ bcs (Pk.lo x k)) → Below wr.heap.size wr w' → Q (.returned v) w') := fun v w' _ h1 h2 => R.out k v w' hk hnb h1 h2
      have hL := rlow_any x k (wr.alloc (.cells #[.int .u8 (k : Int)] 5)) hk X.out
      have hO := World.ownsRow_lit (base := wr.heap.size) (e := 5) (size := 1) wr #[Value.int .u8 (k : Int)] 1 (Nat.le_refl _) (by decide) rfl
      have O : Aside ((wr.alloc (.cells #[.int .u8 (k : Int)] 5)).ownsRow wr.heap.size 5 1 (.slice (some ⟨wr.heap.size, 0, none⟩) 1 1) 1 [Value.int .u8 (k : Int)]) := hO
      have hll : Hid ((Pk.lo x k).length = k) := Pk.lo_length x k
      rw [e0]
      clear hO hnb hlt h0 G R e0 X
      go_wp2_with fail
      refine hL.mono ?_
      rintro e w2 ⟨v2, rfl, hown2, hb2⟩
      have O2 := owns_later hb2 O.out
      have hbb : Below wr.heap.size wr w2 := ((Below.refl _ wr).alloc (Nat.le_refl _) _).trans (hb2.mono (by simp))
      have hs2 : wr.heap.size ≤ w2.heap.size := hbb.size
      go_wp2_with (at_builtin; refine wpList_append_owns _ rfl _ _ 54 rfl wr.heap.size (wr.alloc (.cells #[.int .u8 (k : Int)] 5)).heap.size 5 i0 (.int .u8 0) 1 1 Try.underlying54 I.out.1 I.out.2.1 I.out.2.2.1 I.out.2.2.2 rfl (by decide) _ _ _ rfl O2 _ k _ rfl hown2 ?c1 ?c2 ?c3 ?c4 ?_)
      case c1 => exact bcs_one
      case c2 => unfold maxLen; omega
      case c3 => omega
      case c4 => exact hs2
      intro v3 w3 hown3 hg3
      have hb3 : Below wr.heap.size wr w3 := grown_below' hs2 O2 hbb hg3
      have Q1 := R1.out v3 w3 (World.ownsRow_nil _ _ _ _) hown3 hb3
      clear hown3 hg3 hb3 O2 hown2 hb2 hbb hL R1
      go_wp2
      exact Q1

end Go.Proofs.Ytkphpdejcmkdeaa
