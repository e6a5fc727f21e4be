/-
  The program's reader: alternatives.
-/
import Derived.Test.YtkjiobbkbhmijaaRAlt
namespace Go.Proofs.Ytkjiobbkbhmijaa.U
open Go.RowKit
set_option linter.unusedVariables false
set_option linter.unusedSimpArgs false
set_option maxRecDepth 100000
set_option maxHeartbeats 800000 in
theorem alts_step (rec : Rec) (o : Nat) (hrs : RecS rec) (hrec : o < 16 → AltsC rec (o + 1)) : AltsC (altsR rec) o := by
  intro br p l n w h
  have hlt := h.lt
  obtain ⟨w1, hw1⟩ : ∃ w1, (w.alloc (.cells #[.int .i64 0, .int .i32 0, .slice none 0 0, .bool false, .int .i64 0, .int .i64 0, .slice none 0 0, .int .i64 0] 55)).alloc (.cells #[.slice none 0 0, .int .i64 0] 61) = w1 := ⟨_, rfl⟩
  have hb1 : Below w.heap.size w w1 := by rw [← hw1]; exact ((Below.refl _ w).alloc (Nat.le_refl _) _).alloc (by simp) _
  have hg1 : w1.heap[w.heap.size]? = some (.cells #[.int .i64 0, .int .i32 0, .slice none 0 0, .bool false, .int .i64 0, .int .i64 0, .slice none 0 0, .int .i64 0] 55 (0, 0)) := by
    rw [← hw1, ((Below.refl _ (w.alloc _)).alloc (Nat.le_refl _) _).block _ (by simp)]
    exact heap_alloc_new w _
  have hgq : w1.heap[w.heap.size + 1]? = some (.cells #[.slice none 0 0, .int .i64 0] 61 (0, 0)) := by
    rw [← hw1]
    have := heap_alloc_new (w.alloc (.cells #[.int .i64 0, .int .i32 0, .slice none 0 0, .bool false, .int .i64 0, .int .i64 0, .slice none 0 0, .int .i64 0] 55)) (.cells #[.slice none 0 0, .int .i64 0] 61)
    rw [show (w.alloc (.cells #[.int .i64 0, .int .i32 0, .slice none 0 0, .bool false, .int .i64 0, .int .i64 0, .slice none 0 0, .int .i64 0] 55)).heap.size = w.heap.size + 1 by simp] at this
    exact this
  have HGT1 : Hid (Gt w1 w1 br (w.heap.size + 1) p l n o []) := ⟨LsAt.new w1 _ hgq, h.below hb1, Fr.refl _ _⟩
  have HG1 := Lib.hid hg1
  have HB1 := Lib.hid hb1
  have HW1 := Lib.hid hw1
  have HRS := Lib.hid hrs
  have HREC := Lib.hid hrec
  have HJ : Hid (∀ {l1 : List Int} {n1 : Nat} {acc : List Re} {y : Re} (wr : World) (e : Ending) (w8 : World), Hid (Gt w1 wr br (w.heap.size + 1) p l1 n1 o acc) → Jn wr (w.heap.size + 1) y e w8 → ∃ k8 r8 sa8 sn8 sc8 nt8 l8 h8 pa8 pn8 pc8, e = .returned (.agg #[.int .i64 k8, .int .i32 r8, .slice sa8 sn8 sc8, .bool nt8, .int .i64 l8, .int .i64 h8, .slice pa8 pn8 pc8, .int .i64 ((min y.sz 401 : Nat) : Int)]) ∧ w8.heap[w.heap.size]? = some (.cells #[.int .i64 0, .int .i32 0, .slice none 0 0, .bool false, .int .i64 0, .int .i64 0, .slice none 0 0, .int .i64 0] 55 (0, 0)) ∧
      Hid (∀ W : World, Fr (fun j => j = w.heap.size) w8 W → PtAt (New w W) W [.int .i64 k8, .int .i32 r8, .slice sa8 sn8 sc8, .bool nt8, .int .i64 l8, .int .i64 h8, .slice pa8 pn8 pc8] y ∧ RdS W br p l1 n1 o ∧ Fr (· = br) w W)) := fun wr e w8 hG hj => hG.out.join HB1.out hlt HG1.out _ e w8 hj
  clear hw1 hb1 hg1 hgq hrs hrec
  rw [altsR_eq]
  obtain ⟨r0, hr0⟩ : ∃ r0, alts0 rec l n o = r0 := ⟨_, rfl⟩
  rw [hr0]
  unfold alts0 at hr0
  have HAT : Hid (∀ w2 : World, Hid (Gt w1 w2 br (w.heap.size + 1) p l n o []) → Calls Try.prog 32 #[.pointer (some ⟨br, 0, none⟩)] w2 (PaAns w2 br p o (altR rec l n o))) := fun w2 h2 => alt_any rec br p l n o w2 HRS.out HREC.out h2.out.2.1
  cases ha : altR rec l n o with
  | error ec =>
    rw [ha] at hr0 HAT
    have HREQ : Hid (altF 9 r0 = .error ec) := by show _ = _; rw [← hr0]; rfl
    clear ha hr0 h
    go_enter Try.func27, Try.ntmps27
    go_upto_region 2 with fail
    rw [HW1.out]
    go_wp2_with (go_at_call 32; refine (HAT.out w1 HGT1).mono ?_; intro e w4 h4; obtain ⟨he, hf4⟩ := h4; rw [errV] at he; subst he; have HF4 := Lib.hid hf4; clear hf4)
    refine ⟨rfl, ?_⟩
    show PaAns w br p o (altF 9 r0) _ _
    rw [HREQ.out]
    exact ⟨rfl, HGT1.out.up HB1.out HF4.out⟩
  | ok qa =>
    obtain ⟨x, l3, n3⟩ := qa
    rw [ha] at hr0 HAT
    have HR0 : Hid (altsL rec o (l3.length + 1) [x] l3 n3 = r0) := hr0
    clear ha hr0 h
    have HOPA : Hid (∀ (w2 w4 : World) (e : Ending), PaAns w2 br p o (.ok (x, l3, n3)) e w4 → ∃ k4 r4 sa4 sn4 sc4 nt4 l4 h4 pa4 pn4 pc4, e = .returned (.agg #[.int .i64 k4, .int .i32 r4, .slice sa4 sn4 sc4, .bool nt4, .int .i64 l4, .int .i64 h4, .slice pa4 pn4 pc4, .int .i64 ((min x.sz 401 : Nat) : Int)]) ∧ Hid (PtAt (New w2 w4) w4 [.int .i64 k4, .int .i32 r4, .slice sa4 sn4 sc4, .bool nt4, .int .i64 l4, .int .i64 h4, .slice pa4 pn4 pc4] x ∧ RdS w4 br p l3 n3 o ∧ Fr (· = br) w2 w4)) := by
      rintro w2 w4 e ⟨v, rfl, h1, h2, h3⟩
      obtain ⟨k4, r4, sa4, sn4, sc4, nt4, l4, h4, pa4, pn4, pc4, rfl⟩ := h1.rev7
      exact ⟨k4, r4, sa4, sn4, sc4, nt4, l4, h4, pa4, pn4, pc4, rfl, h1, h2, h3⟩
    have HAD : Hid (∀ (w2 w4 : World) (k4 r4 : Int) (sa4 : Option Addr) (sn4 sc4 : Nat) (nt4 : Bool) (l4 h4 : Int) (pa4 : Option Addr) (pn4 pc4 : Nat), Hid (Gt w1 w2 br (w.heap.size + 1) p (l) n o []) → Hid (PtAt (New w2 w4) w4 [.int .i64 k4, .int .i32 r4, .slice sa4 sn4 sc4, .bool nt4, .int .i64 l4, .int .i64 h4, .slice pa4 pn4 pc4] x ∧ RdS w4 br p l3 n3 o ∧ Fr (· = br) w2 w4) →
        Calls Try.prog 31 #[.pointer (some ⟨w.heap.size + 1, 0, none⟩), .agg #[.int .i64 k4, .int .i32 r4, .slice sa4 sn4 sc4, .bool nt4, .int .i64 l4, .int .i64 h4, .slice pa4 pn4 pc4, .int .i64 ((min x.sz 401 : Nat) : Int)]] w4 fun e w' => e = .returned (.tuple #[]) ∧ Hid (Gt w1 w' br (w.heap.size + 1) p l3 n3 o ([] ++ [x]))) := by
      intro w2 w4 k4 r4 sa4 sn4 sc4 nt4 l4 h4 pa4 pn4 pc4 h2 h
      have := h2.out.add (x := x) (v := [.int .i64 k4, .int .i32 r4, .slice sa4 sn4 sc4, .bool nt4, .int .i64 l4, .int .i64 h4, .slice pa4 pn4 pc4]) (by omega) h.out.1 h.out.2.1 h.out.2.2
      rw [show ptV [.int .i64 k4, .int .i32 r4, .slice sa4 sn4 sc4, .bool nt4, .int .i64 l4, .int .i64 h4, .slice pa4 pn4 pc4] x = .agg #[.int .i64 k4, .int .i32 r4, .slice sa4 sn4 sc4, .bool nt4, .int .i64 l4, .int .i64 h4, .slice pa4 pn4 pc4, .int .i64 ((min x.sz 401 : Nat) : Int)] from rfl] at this
      exact this
    go_enter Try.func27, Try.ntmps27
    go_upto_region 2 with fail
    rw [HW1.out]
    go_wp2_with (first
      | (go_at_call 32; refine (HAT.out w1 HGT1).mono ?_; intro e w4 hh; obtain ⟨k4, r4, sa4, sn4, sc4, nt4, l4, h4, pa4, pn4, pc4, he, H4⟩ := HOPA.out w1 w4 e hh; subst he; clear hh)
      | (go_at_call 31; refine (HAD.out w1 w4 k4 r4 sa4 sn4 sc4 nt4 l4 h4 pa4 pn4 pc4 HGT1 H4).mono ?_; rintro e w6 ⟨rfl, H6⟩))
    go_loopw [] (fun wr => ∃ (acc : List Re) (l1 : List Int) (n1 f : Nat), Hid (Gt w1 wr br (w.heap.size + 1) p l1 n1 o acc ∧ l1.length < f ∧ altsL rec o f acc l1 n1 = r0)) (fun wr => p.length - atN wr br)
    case atStart => exact ⟨_, _, _, _, H6.out, by omega, HR0.out⟩
    case round =>
      obtain ⟨acc, l1, n1, f, HR⟩ := hrel
      clear H6 HR0 HGT1 H4 HAT HOPA HAD
      obtain ⟨g, hg⟩ : ∃ g, f = g + 1 := ⟨f - 1, by have := HR.out.2.1; omega⟩
      subst hg
      cases hp : pre [92, 124] l1 with
      | false =>
        have HREQ : Hid (altF 9 r0 = .ok (joinR 9 acc, l1, n1)) := by
          have := HR.out.2.2
          rw [altsL, hp] at this
          rw [← this]; rfl
        have HP := Lib.hid hp
        clear hp
        go_wp2_with (first
          | (go_at_call 33; refine (took2_no HR.out.1.2.1 92 124 HP.out (by decide) (by decide)).mono ?_; rintro e wt ⟨rfl, HT⟩; have HG2 := Lib.hid (HR.out.1.below HT.out))
          | (go_at_call 34; refine (joined_any (w.heap.size + 1) 9 (by decide) acc _ HG2.out.1).mono ?_; intro e w8 hh; obtain ⟨k8, r8, sa8, sn8, sc8, nt8, l8, h8, pa8, pn8, pc8, he, hg8, HFIN⟩ := HJ.out _ e w8 HG2 hh; subst he; clear hh; obtain ⟨b0, b1, b2, b3, b4, b5, b6, b7, z0, z1, z2, z3, z4, z5, z6, z7⟩ := row8 hg8; have HG8 := Lib.hid hg8; clear hg8))
        have hput := put8 HG8.out (.int .i64 k8) (.int .i32 r8) (.slice sa8 sn8 sc8) (.bool nt8) (.int .i64 l8) (.int .i64 h8) (.slice pa8 pn8 pc8) (.int .i64 ((min (joinR 9 acc).sz 401 : Nat) : Int))
        have HEND := Lib.hid (HFIN.out _ hput.2)
        clear hput
        refine bodyPost_ret (v := .agg #[.int .i64 k8, .int .i32 r8, .slice sa8 sn8 sc8, .bool nt8, .int .i64 l8, .int .i64 h8, .slice pa8 pn8 pc8, .int .i64 ((min (joinR 9 acc).sz 401 : Nat) : Int)]) ?_ rfl ?_
        · rw [results_cell1 rfl]
          go_simp
        · show PaAns w br p o (altF 9 r0) _ _
          rw [HREQ.out]
          exact PaAns.ok (v := [.int .i64 k8, .int .i32 r8, .slice sa8 sn8 sc8, .bool nt8, .int .i64 l8, .int .i64 h8, .slice pa8 pn8 pc8]) rfl HEND.out
      | true =>
        have HP := Lib.hid hp
        have HTK : Hid (∀ (w' : World), Hid (RdS w' br p (l1.drop 2) n1 o ∧ Fr (· = br) wr w') → Hid (Gt w1 w' br (w.heap.size + 1) p (l1.drop 2) n1 o acc)) := fun w' h2 => ⟨HR.out.1.1.fr h2.out.2 (fun k e => by omega), h2.out.1, HR.out.1.2.2.trans h2.out.2 (fun _ _ h => Or.inl h)⟩
        have HAT : Hid (∀ w2 : World, Hid (Gt w1 w2 br (w.heap.size + 1) p (l1.drop 2) n1 o acc) → Calls Try.prog 32 #[.pointer (some ⟨br, 0, none⟩)] w2 (PaAns w2 br p o (altR rec (l1.drop 2) n1 o))) := fun w2 h2 => alt_any rec br p (l1.drop 2) n1 o w2 HRS.out HREC.out h2.out.2.1
        cases ha : altR rec (l1.drop 2) n1 o with
        | error ec =>
          have HREQ : Hid (altF 9 r0 = .error ec) := by
            have := HR.out.2.2
            rw [altsL, hp] at this
            simp only [ha, if_true] at this
            rw [← this]; rfl
          rw [ha] at HAT
          clear ha hp
          go_wp2_with (first
            | (go_at_call 33; refine (took2_yes HR.out.1.2.1 92 124 HP.out (by decide) (by decide)).mono ?_; rintro e wt ⟨rfl, HT⟩; have HG2 := HTK.out wt HT)
            | (go_at_call 32; refine (HAT.out wt HG2).mono ?_; intro e w4 h4; obtain ⟨he, hf4⟩ := h4; rw [errV] at he; subst he; have HF4 := Lib.hid hf4; clear hf4))
          refine ⟨rfl, ?_⟩
          show PaAns w br p o (altF 9 r0) _ _
          rw [HREQ.out]
          exact ⟨rfl, HG2.out.up HB1.out HF4.out⟩
        | ok qa =>
          obtain ⟨x, l3, n3⟩ := qa
          rw [ha] at HAT
          have HREQ : Hid (altsL rec o g (acc ++ [x]) l3 n3 = r0) := by
            have := HR.out.2.2
            rw [altsL, hp] at this
            simp only [ha, if_true] at this
            exact this
          have HLE : Hid (l3.length + 2 ≤ l1.length) := by
            have h1 := (altR_suffix HRS.out ha).length_le
            have h2 := pre_len hp
            show _ ≤ _
            simp only [List.length_drop, List.length_cons, List.length_nil] at h1 h2
            omega
          clear ha hp
          have HOPA : Hid (∀ (w2 w4 : World) (e : Ending), PaAns w2 br p o (.ok (x, l3, n3)) e w4 → ∃ k4 r4 sa4 sn4 sc4 nt4 l4 h4 pa4 pn4 pc4, e = .returned (.agg #[.int .i64 k4, .int .i32 r4, .slice sa4 sn4 sc4, .bool nt4, .int .i64 l4, .int .i64 h4, .slice pa4 pn4 pc4, .int .i64 ((min x.sz 401 : Nat) : Int)]) ∧ Hid (PtAt (New w2 w4) w4 [.int .i64 k4, .int .i32 r4, .slice sa4 sn4 sc4, .bool nt4, .int .i64 l4, .int .i64 h4, .slice pa4 pn4 pc4] x ∧ RdS w4 br p l3 n3 o ∧ Fr (· = br) w2 w4)) := by
            rintro w2 w4 e ⟨v, rfl, h1, h2, h3⟩
            obtain ⟨k4, r4, sa4, sn4, sc4, nt4, l4, h4, pa4, pn4, pc4, rfl⟩ := h1.rev7
            exact ⟨k4, r4, sa4, sn4, sc4, nt4, l4, h4, pa4, pn4, pc4, rfl, h1, h2, h3⟩
          have HAD : Hid (∀ (w2 w4 : World) (k4 r4 : Int) (sa4 : Option Addr) (sn4 sc4 : Nat) (nt4 : Bool) (l4 h4 : Int) (pa4 : Option Addr) (pn4 pc4 : Nat), Hid (Gt w1 w2 br (w.heap.size + 1) p (l1.drop 2) n1 o acc) → Hid (PtAt (New w2 w4) w4 [.int .i64 k4, .int .i32 r4, .slice sa4 sn4 sc4, .bool nt4, .int .i64 l4, .int .i64 h4, .slice pa4 pn4 pc4] x ∧ RdS w4 br p l3 n3 o ∧ Fr (· = br) w2 w4) →
              Calls Try.prog 31 #[.pointer (some ⟨w.heap.size + 1, 0, none⟩), .agg #[.int .i64 k4, .int .i32 r4, .slice sa4 sn4 sc4, .bool nt4, .int .i64 l4, .int .i64 h4, .slice pa4 pn4 pc4, .int .i64 ((min x.sz 401 : Nat) : Int)]] w4 fun e w' => e = .returned (.tuple #[]) ∧ Hid (Gt w1 w' br (w.heap.size + 1) p l3 n3 o (acc ++ [x]))) := by
            intro w2 w4 k4 r4 sa4 sn4 sc4 nt4 l4 h4 pa4 pn4 pc4 h2 h
            have := h2.out.add (x := x) (v := [.int .i64 k4, .int .i32 r4, .slice sa4 sn4 sc4, .bool nt4, .int .i64 l4, .int .i64 h4, .slice pa4 pn4 pc4]) (by omega) h.out.1 h.out.2.1 h.out.2.2
            rw [show ptV [.int .i64 k4, .int .i32 r4, .slice sa4 sn4 sc4, .bool nt4, .int .i64 l4, .int .i64 h4, .slice pa4 pn4 pc4] x = .agg #[.int .i64 k4, .int .i32 r4, .slice sa4 sn4 sc4, .bool nt4, .int .i64 l4, .int .i64 h4, .slice pa4 pn4 pc4, .int .i64 ((min x.sz 401 : Nat) : Int)] from rfl] at this
            exact this
          go_wp2_with (first
            | (go_at_call 33; refine (took2_yes HR.out.1.2.1 92 124 HP.out (by decide) (by decide)).mono ?_; rintro e wt ⟨rfl, HT⟩; have HG2 := HTK.out wt HT)
            | (go_at_call 32; refine (HAT.out wt HG2).mono ?_; intro e w4 hh; obtain ⟨k4, r4, sa4, sn4, sc4, nt4, l4, h4, pa4, pn4, pc4, he, H4⟩ := HOPA.out wt w4 e hh; subst he; clear hh)
            | (go_at_call 31; refine (HAD.out wt w4 k4 r4 sa4 sn4 sc4 nt4 l4 h4 pa4 pn4 pc4 HG2 H4).mono ?_; rintro e w6 ⟨rfl, H6⟩))
          go_roundw
          case rel => exact ⟨acc ++ [x], l3, n3, g, H6.out, by have := HLE.out; have := HR.out.2.1; omega, HREQ.out⟩
          case measure =>
            have h7 := H6.out.2.1.atN
            have h8 := HR.out.1.2.1.atN
            have h9 := HR.out.1.2.1.len
            have := HLE.out
            rw [h7, h8]
            omega
theorem alts_all : ∀ (d o : Nat), o + d = 16 → AltsC (alts (d + 1)) o
  | 0, o, h => alts_step (alts 0) o (alts_suffix 0) (fun ho => by omega)
  | d + 1, o, h => alts_step (alts (d + 1)) o (alts_suffix (d + 1)) (fun ho => alts_all d (o + 1) (by omega))
end Go.Proofs.Ytkjiobbkbhmijaa.U
