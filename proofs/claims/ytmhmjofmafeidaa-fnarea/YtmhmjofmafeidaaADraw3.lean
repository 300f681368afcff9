/- spec.DrawReserve; laws.lwNums. -/
import Derived.Test.YtmhmjofmafeidaaADraw2
import Derived.Test.YtmhmjofmafeidaaAInts
import Derived.Test.YtmhmjofmafeidaaLMark
namespace Go.Proofs.Ytmhmjofmafeidaa
open Go.RowKit

set_option maxHeartbeats 2000000 in
set_option maxRecDepth 100000 in
theorem lwNums_any (v u : Value) (l : List Int) (w : World) (h : Rd w v l.length 1 (ints l)) (k : Rd w u l.length 1 (ints l)) (hn : l.length ≤ 1048576) :
    Calls Try.prog 21 #[v, u] w fun e w' => e = .returned (.bool true) ∧ Still w w' := by
  obtain ⟨_, a, c, rfl, hc⟩ := h
  obtain ⟨_, a', c', rfl, hc'⟩ := k
  have HC := Lib.hid hc
  have HC' := Lib.hid hc'
  clear hc hc'
  have d0 : ((l.length : Int) != (l.length : Int)) = false := by simp
  go_enter Try.func21, Try.ntmps21
  go_wp2_with fail
  go_loopw [5] (fun i wr => EqRel w l.length i wr) (fun i _ => l.length - (intOf i).toNat)
  case atStart => exact ⟨0, by omega, rfl, Still.refl w⟩
  case round =>
    obtain ⟨k, hk, rfl, hst⟩ := hrel
    by_cases hlt : k < l.length
    · obtain ⟨b, off, rfl, hbl, hcell⟩ := HC.out (by omega)
      obtain ⟨b', off', rfl, hbl', hcell'⟩ := HC'.out (by omega)
      have hc1 : wr.cell? ⟨b, off + k, none⟩ = some (.int .i64 l[k]) := by
        rw [(hst.below w.heap.size).cell (p := ⟨b, off + k, none⟩) hbl, hcell k (by omega), ints_at l k hlt]
      have hc2 : wr.cell? ⟨b', off' + k, none⟩ = some (.int .i64 l[k]) := by
        rw [(hst.below w.heap.size).cell (p := ⟨b', off' + k, none⟩) hbl', hcell' k (by omega), ints_at l k hlt]
      have HST := Lib.hid hst
      clear hcell hcell' hst
      have e0 : (k : Int) < (l.length : Int) := by omega
      have e1 : (0 : Int) ≤ (k : Int) := by omega
      go_wp2_with fail
      go_quiet (fail)
      go_wp2_with fail
      go_roundw
      case rel => exact ⟨k + 1, by omega, by go_num, HST.out.trans ⟨_, rfl⟩⟩
      case measure => simp [intOf]; omega
    · obtain rfl : k = l.length := by omega
      go_wp2_with fail
      go_ret
      exact ⟨rfl, hst⟩
/-- Two lists and a number. -/
def DrawnRes (W : World) (e : Ending) (w' : World) : Prop :=
  ∃ la lb va vb n, la.length ≤ 26 ∧ lb.length ≤ 26 ∧ (-9223372036854775808 ≤ n ∧ n ≤ 9223372036854775807) ∧ e = .returned (.tuple #[va, vb, .int .i64 n]) ∧ Own w' W.heap.size va la.length 1 (ints la) ∧ Own w' W.heap.size vb lb.length 1 (ints lb) ∧ Below W.heap.size W w'
set_option maxHeartbeats 2000000 in
set_option maxRecDepth 100000 in
theorem drawReserve_any (a : Option Addr) (len cap : Nat) (w : World) (hB : Bytes w a len) (hl : len ≤ 1048576) :
    Calls Try.prog 29 #[.slice a len cap] w (DrawnRes w) := by
  have HB := Lib.hid hB
  clear hB
  go_enter Try.func29, Try.ntmps29
  go_wp2_with fail
  refine (source_any a len cap w HB.out hl).mono ?_
  rintro e w1 ⟨rfl, hs1, hb1⟩
  have hbl := hs1.lt
  have HS1 := Lib.hid hs1
  have HR := Lib.hid (HB.out.row hb1 (Nat.le_refl _))
  have HB1 := Lib.hid hb1
  have hz1 := hb1.size
  clear hs1 hb1
  go_wp2_with fail
  refine (l05List_any w.heap.size a len cap w1 HS1.out HR.out).mono ?_
  rintro e w2 ⟨la, va, hla, rfl, hst⟩
  obtain ⟨xa, ca, rfl⟩ := hst.adr
  have SA := Lib.hid hst
  clear hst HS1
  go_wp2_with fail
  refine (l05List_any w.heap.size a len cap w2 SA.out.src (HR.out.kept SA.out.kept)).mono ?_
  rintro e w3 ⟨lb, vb, hlb, rfl, hst⟩
  obtain ⟨xb, cb, rfl⟩ := hst.adr
  have hz2 := SA.out.kept.size
  have SB := Lib.hid (hst.from SA.out.kept)
  have GA := Lib.hid (SA.out.gr.kept hst.kept hbl)
  clear hst SA
  go_wp2_with fail
  refine (one_any w.heap.size a len cap 12 w3 SB.out.src (HR.out.kept SB.out.kept) (by omega) (by omega)).mono ?_
  rintro e w4 ⟨bb, rfl, hs4, hk4⟩
  have SB4 := Lib.hid (SB.out.keep hk4 hs4 hbl)
  have GA4 := Lib.hid (GA.out.kept hk4 hbl)
  clear hs4 hk4 SB GA
  cases bb with
  | true =>
    go_wp2_with fail
    refine (edge_any w.heap.size a len cap w4 SB4.out.src (HR.out.kept SB4.out.kept)).mono ?_
    rintro e w5 ⟨x, hx, rfl, hs5, hk5⟩
    have SB5 := Lib.hid (SB4.out.keep hk5 hs5 hbl)
    have GA5 := Lib.hid (GA4.out.kept hk5 hbl)
    clear hs5 hk5 SB4 GA4
    go_wp2_with fail
    refine bodyPost_ret (v := .tuple #[.slice (some xa) la.length ca, .slice (some xb) lb.length cb, .int .i64 x]) (by simp [results, Try.results29, go_sem]) rfl ?_
    exact ⟨la, lb, _, _, x, hla, hlb, hx, rfl, GA5.out.own.lower hz1, SB5.out.gr.own.lower hz1, HB1.out.trans (SB5.out.kept.below (Nat.le_refl _) hz1)⟩
  | false =>
    go_wp2_with fail
    refine (n_any w.heap.size a len cap 9 w4 SB4.out.src (HR.out.kept SB4.out.kept) (by omega) (by omega)).mono ?_
    rintro e w5 ⟨x, hx, rfl, hs5, hk5⟩
    have SB5 := Lib.hid (SB4.out.keep hk5 hs5 hbl)
    have GA5 := Lib.hid (GA4.out.kept hk5 hbl)
    clear hs5 hk5 SB4 GA4
    go_wp2_with fail
    refine bodyPost_ret (v := .tuple #[.slice (some xa) la.length ca, .slice (some xb) lb.length cb, .int .i64 x]) (by simp [results, Try.results29, go_sem]) rfl ?_
    exact ⟨la, lb, _, _, x, hla, hlb, by omega, rfl, GA5.out.own.lower hz1, SB5.out.gr.own.lower hz1, HB1.out.trans (SB5.out.kept.below (Nat.le_refl _) hz1)⟩
end Go.Proofs.Ytmhmjofmafeidaa
