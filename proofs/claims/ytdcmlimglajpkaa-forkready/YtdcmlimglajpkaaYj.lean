/- The reference's channel: Recv, of whatever channel, over this seat's program. -/
import Derived.Test.YtdcmlimglajpkaaYf
import Derived.Test.YtdcmlimglajpkaaYc2
import Derived.Test.YtdcmlimglajpkaaYi
namespace Go.Proofs.Ytdcmlimglajpkaa
open Go.ChangeShapes Go.WideShapes Go.ChangeAt Go.RowKit
namespace Rp
open Ba Pe _root_.Go.Proofs.Ytdcmlimglajpkaa.Pi

theorem rrecv_any (G : Nat) (F : Nat → Prop) (st : St) (w : World) (h : Rr w G F st) (hs : st.sent < 1000000000) (hg : st.got < 1000000000) :
    Calls Try.prog 48 #[.pointer (some ⟨G, 0, none⟩)] w fun r w' => r = .returned (gv (recvG st)) ∧ KF F w w' ∧ ∃ F', Nw F' F w ∧ Rr w' G F' (recvS st) := by
  cases hb : st.buf with
  | nil =>
    cases hr : st.snd with
    | nil =>
      rw [show recvG st = ⟨st.closed, false, false, 0, ⟨0, 0, 0⟩⟩ by simp [recvG, hb, hr], show recvS st = st by simp [recvS, hb, hr]]
      exact rrecv_none G F st w h hb hr
    | cons y t =>
      rw [show recvG st = ⟨true, true, true, y.v, y⟩ by simp [recvG, hb, hr], show recvS st = { st with snd := t, sent := st.sent + 1, got := st.got + 1 } by simp [recvS, hb, hr]]
      exact rrecv_snd G F st y t w h hb hr hs hg
  | cons x b =>
    cases hr : st.snd with
    | nil =>
      rw [show recvG st = ⟨true, true, false, x, ⟨0, 0, 0⟩⟩ by simp [recvG, hb, hr], show recvS st = { st with buf := b, got := st.got + 1 } by simp [recvS, hb, hr]]
      exact rrecv_buf G F st x b w h hb hr hg
    | cons y t =>
      rw [show recvG st = ⟨true, true, true, x, y⟩ by simp [recvG, hb, hr], show recvS st = { st with buf := b ++ [y.v], snd := t, sent := st.sent + 1, got := st.got + 1 } by simp [recvS, hb, hr]]
      exact rrecv_both G F st x b y t w h hb hr hs hg
end Rp
end Go.Proofs.Ytdcmlimglajpkaa
