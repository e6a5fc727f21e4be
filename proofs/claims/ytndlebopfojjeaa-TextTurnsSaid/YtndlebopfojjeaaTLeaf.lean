/-
  The contracts of sum, block.size, lengths.find.
-/
import Derived.Test.YtndlebopfojjeaaTMem
namespace Go.Proofs.Ytndlebopfojjeaa.U
open Go.RowKit
set_option linter.unusedVariables false
set_option linter.unusedSimpArgs false
set_option maxRecDepth 100000

theorem sum_take {ns : List Nat} {k x : Nat} (h : ns[k]? = some x) : (ns.take (k + 1)).sum = (ns.take k).sum + x := by
  obtain ⟨hk, e⟩ := List.getElem?_eq_some_iff.1 h
  rw [List.take_succ_eq_append_getElem hk, List.sum_append, e]; simp
theorem sum_take_le (ns : List Nat) (k : Nat) : (ns.take k).sum ≤ ns.sum := by
  conv => rhs; rw [← List.take_append_drop k ns, List.sum_append]
  omega

theorem sum_any (a : Option Addr) (n c : Nat) (ns : List Nat) (w : World) (h : RdN w a n c ns) (hs : ns.sum ≤ lim) :
    Calls Try.prog 57 #[.slice a n c] w fun e w' => e = .returned (.int .i64 (ns.sum : Nat)) ∧ w = w' := by
  have hsm := Rc.small h
  have hl := h.len
  unfold lim at hs
  have HL := Lib.hid hl
  have H := Lib.hid h
  have HS : Hid (ns.sum ≤ 1099511627776) := hs
  clear h hl hs
  go_enter Try.func57, Try.ntmps57
  go_wp2_with fail
  go_loop [3, 8] (fun v3 v8 => ∃ k s : Nat, k ≤ n ∧ s ≤ 1099511627776 ∧ v8 = .int .i64 k ∧ v3 = .int .i64 s ∧ Hid (s = (ns.take k).sum)) (fun _ v8 => n - (intOf v8).toNat)
  case atStart => exact ⟨0, 0, Nat.zero_le _, by omega, rfl, rfl, rfl⟩
  case round =>
    obtain ⟨k, s, hk, hs, rfl, rfl, he⟩ := hrel
    by_cases hlt : k < n
    · obtain ⟨x, hx⟩ : ∃ x, ns[k]? = some x := ⟨_, List.getElem?_eq_getElem (by have := HL.out; omega)⟩
      obtain ⟨b, off, rfl, hb, hc⟩ := H.out.at_ (by omega)
      have cx := hc k x hx
      have hsx := sum_take hx
      have hle := sum_take_le ns (k + 1)
      have hx2 : s + x ≤ 1099511627776 := by have := he.out; have := HS.out; omega
      have HE : Hid (s + x = (ns.take (k + 1)).sum) := by show _ = _; rw [hsx, he.out]
      clear hc hsx hle hx he
      go_wp2_with fail
      go_round
      case rel => exact ⟨k + 1, s + x, by omega, hx2, by go_num, by go_num, HE⟩
      case measure => simp [intOf]; omega
    · obtain rfl : k = n := by omega
      have e : s = ns.sum := by rw [he.out, List.take_of_length_le (by have := HL.out; omega)]
      subst e
      clear he
      go_wp2_with fail
      go_ret
      exact ⟨rfl, rfl⟩

theorem size_any (a : Option Addr) (n c s : Nat) (w : World) (hn : n ≤ 1099511627776) (hs : s ≤ 1099511627776) :
    Calls Try.prog 56 #[.agg #[.slice a n c, .int .i64 s]] w fun e w' => e = .returned (.int .i64 ((s + n : Nat) : Int)) ∧ w.alloc (.cells #[.slice a n c, .int .i64 s] 92) = w' := by
  go_enter Try.func56, Try.ntmps56
  go_wp2
  go_ret
  exact ⟨ret_int (by omega), rfl⟩

/-- the lengths of a text, behind the block bt -/
structure LB (w : World) (F : Nat → Prop) (bt : Nat) (a : Option Addr) (n c : Nat) (ps : List ((Option Addr × Nat) × List Nat)) (count : Nat) : Prop where
  lt : bt < w.heap.size
  c1 : w.cell? ⟨bt, 1, none⟩ = some (.slice a n c)
  rd : Rc w a n c 2 (flatB ps)
  ok : BlkOk F w ps
  cnt : (lists ps).flatten.length = count
  small : sizeN (lists ps).flatten ≤ 1099511627776
theorem LB.below {w w' F bt a n c ps count} (h : LB w F bt a n c ps count) (hb : Below w.heap.size w w') : LB w' F bt a n c ps count :=
  ⟨Nat.lt_of_lt_of_le h.lt hb.size, (hb.cell (p := ⟨bt, 1, none⟩) h.lt).trans h.c1, h.rd.below hb, h.ok.below hb, h.cnt, h.small⟩
theorem LB.plen {w F bt a n c ps count} (h : LB w F bt a n c ps count) : ps.length = n := by have := h.rd.1; rw [flatB_len] at this; omega
theorem LB.few {w F bt a n c ps count} (h : LB w F bt a n c ps count) : n ≤ count := by rw [← h.plen, ← h.cnt]; exact h.ok.count
theorem LB.cntb {w F bt a n c ps count} (h : LB w F bt a n c ps count) : count ≤ 1099511627776 := by have := h.small; rw [sizeN_sum, h.cnt] at this; omega
/-- a block in a later world -/
theorem LB.get {w W F bt a n c ps count} {i : Nat} {p : (Option Addr × Nat) × List Nat} (h : LB w F bt a n c ps count) (hb : Below w.heap.size w W) (hp : ps[i]? = some p) : ∃ b off, a = some ⟨b, off, none⟩ ∧ b < w.heap.size ∧
    W.cell? ⟨b, off + i * 2, none⟩ = some (.slice p.1.1 p.2.length p.1.2) ∧ W.cell? ⟨b, off + i * 2 + 1, none⟩ = some (.int .i64 (p.2.sum : Nat)) ∧ RdN W p.1.1 p.2.length p.1.2 p.2 ∧ p.2.length + p.2.sum ≤ 1099511627776 := by
  have hi := (List.getElem?_eq_some_iff.1 hp).1
  obtain ⟨b, off, ha, hbl, hc⟩ := blk_at h.rd (by rw [← h.plen]; omega)
  obtain ⟨e1, e2⟩ := hc i p hp
  refine ⟨b, off, ha, hbl, (hb.cell (p := ⟨b, off + i * 2, none⟩) hbl).trans e1, (hb.cell (p := ⟨b, off + i * 2 + 1, none⟩) hbl).trans e2, Rc.below (h.ok p (List.mem_of_getElem? hp)).1 hb, ?_⟩
  have h1 := h.small
  rw [flat_cut (lists ps) i, sizeN_append, flat_at (lists_at hp), sizeN_append, sizeN_sum p.2] at h1
  omega

theorem findB_drop {bs : List (List Nat)} {i k m : Nat} {b : List Nat} (h : findB bs i = ((findB (bs.drop k) m).1 + k, (findB (bs.drop k) m).2)) (hb : bs[k]? = some b) :
    (m < b.length → findB bs i = (k, m)) ∧ (¬ m < b.length → findB bs i = ((findB (bs.drop (k + 1)) (m - b.length)).1 + (k + 1), (findB (bs.drop (k + 1)) (m - b.length)).2)) := by
  obtain ⟨hk, e⟩ := List.getElem?_eq_some_iff.1 hb
  rw [List.drop_eq_getElem_cons hk, e, findB] at h
  constructor
  · intro hm
    rw [if_pos hm] at h
    simpa using h
  · intro hm
    rw [if_neg hm] at h
    rw [h]
    simp only [Prod.mk.injEq, and_true]
    omega

set_option maxHeartbeats 1000000 in
theorem tfind_any (F : Nat → Prop) (bt : Nat) (a : Option Addr) (n c : Nat) (ps : List ((Option Addr × Nat) × List Nat)) (count i : Nat) (w : World) (h : LB w F bt a n c ps count) (hi : i ≤ count) :
    Calls Try.prog 55 #[.pointer (some ⟨bt, 1, none⟩), .int .i64 i] w fun e w' => e = .returned (.tuple #[.int .i64 ((findB (lists ps) i).1 : Nat), .int .i64 ((findB (lists ps) i).2 : Nat)]) ∧ Below w.heap.size w w' := by
  have c1 := h.c1
  have hlt := h.lt
  have hcb := h.cntb
  have hfew := h.few
  have HN := Lib.hid h.plen
  have HC := Lib.hid h.cnt
  obtain ⟨R, hR⟩ : ∃ R, findB (lists ps) i = R := ⟨_, rfl⟩
  have HR := Lib.hid hR
  rw [hR]
  have H := Lib.hid h
  clear h hR
  go_enter Try.func55, Try.ntmps55
  go_wp2_with fail
  go_loopw [1, 13] (fun v1 v13 wr => ∃ k m : Nat, v1 = .int .i64 m ∧ v13 = .int .i64 k ∧ k ≤ n ∧ m ≤ 1099511627776 ∧ Hid (R = ((findB ((lists ps).drop k) m).1 + k, (findB ((lists ps).drop k) m).2) ∧ m ≤ ((lists ps).drop k).flatten.length) ∧ Below w.heap.size w wr) (fun _ v13 _ => n - (intOf v13).toNat)
  case atStart => exact ⟨0, i, rfl, rfl, Nat.zero_le _, by omega, ⟨by rw [HR.out.symm]; rfl, by rw [List.drop_zero, HC.out]; exact hi⟩, Below.refl _ _⟩
  case round =>
    obtain ⟨k, m, rfl, rfl, hk, hm, hh, hb⟩ := hrel
    have hsz := hb.size
    by_cases hkl : k < n
    · obtain ⟨p, hp⟩ : ∃ p, ps[k]? = some p := ⟨_, List.getElem?_eq_getElem (by have := HN.out; omega)⟩
      obtain ⟨b, off, rfl, hbl, d0, d1, hrd, hsm⟩ := H.out.get hb hp
      have hblw : b < wr.heap.size := by omega
      obtain ⟨k1, k2⟩ := findB_drop (HR.out.trans hh.out.1) (lists_at hp)
      rw [HR.out] at k1 k2
      have hfl := flat_at (lists_at hp)
      have hml : ¬ m < p.2.length → m - p.2.length ≤ ((lists ps).drop (k + 1)).flatten.length := by
        intro hmp
        have := hh.out.2
        rw [hfl, List.length_append] at this
        omega
      obtain ⟨⟨ra, rc⟩, ls⟩ := p
      simp only at d0 d1 k1 k2 hml hsm
      obtain ⟨x, hx⟩ : ∃ x, ls.length = x := ⟨_, rfl⟩
      obtain ⟨y, hy⟩ : ∃ y, ls.sum = y := ⟨_, rfl⟩
      rw [hx] at d0 k1 k2 hml hsm
      rw [hy] at d1 hsm
      have K1 := Lib.hid k1
      have K2 := Lib.hid k2
      have HML := Lib.hid hml
      clear k1 k2 hml hrd hfl hp hx hy hh
      by_cases hmd : m < x
      · have hF := K1.out hmd
        subst hF
        go_wp2_with fail
        go_ret2
        exact ⟨rfl, hb.alloc (by omega) _⟩
      · have hF := Lib.hid (K2.out hmd)
        have hM := Lib.hid (HML.out hmd)
        have hmd' : x ≤ m := by omega
        go_wp2_with fail
        go_roundw
        case rel => exact ⟨k + 1, m - x, by congr 1; omega, by go_num, by omega, by omega, ⟨hF.out, hM.out⟩, hb.alloc (by omega) _⟩
        case measure => simp [intOf]; omega
    · obtain rfl : k = n := by omega
      have hF : R = (k, 0) := by
        have e := hh.out.1
        rw [List.drop_eq_nil_of_le (by rw [lists_len, HN.out]; omega)] at e
        rw [e]; simp [findB]
      subst hF
      have c1' : wr.cell? ⟨bt, 1, none⟩ = some (.slice a k c) := (hb.cell (p := ⟨bt, 1, none⟩) hlt).trans c1
      have hbtw : bt < wr.heap.size := by omega
      clear hh
      go_wp2_with fail
      go_ret2
      exact ⟨rfl, hb⟩
end Go.Proofs.Ytndlebopfojjeaa.U
