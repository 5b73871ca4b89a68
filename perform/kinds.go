package perform

import (
	"math"

	"longshore/api"
)

// fieldsOf are the fields of a kind of performative, in the order of its composite's; none, if it is no such kind.
func fieldsOf(kind int) []field {
	switch kind {
	case api.KOpen:
		return openFields()
	case api.KBegin:
		return beginFields()
	case api.KAttach:
		return attachFields()
	case api.KFlow:
		return flowFields()
	case api.KTransfer:
		return transferFields()
	case api.KDisposition:
		return dispositionFields()
	case api.KDetach:
		return []field{word(atHandle, 0), truth(atClosed), fault()}
	case api.KEnd, api.KClose:
		return []field{fault()}
	}
	return nil
}

func openFields() []field {
	return []field{
		name(atId),
		nameIfAny(atHost),
		number(atMaxFrame, api.Uint, api.MinFrame, api.MaxWord, api.MaxWord),
		number(atChannelMax, api.Ushort, 0, api.MaxChannel, api.MaxChannel),
		wordIfAny(atIdle),
		props(),
	}
}

func beginFields() []field {
	return []field{
		numberIfAny(atRemote, api.Ushort, -1, api.MaxChannel),
		word(atNextOut, 0),
		word(atInWin, 0),
		word(atOutWin, 0),
		word(atHandleMax, api.MaxWord),
		props(),
	}
}

func attachFields() []field {
	return []field{
		name(atName),
		word(atHandle, 0),
		truth(atReceiver),
		number(atSndMode, api.Ubyte, api.SndOpen, api.SndMixed, api.SndMixed),
		number(atRcvMode, api.Ubyte, api.RcvFirst, api.RcvSecond, api.RcvFirst),
		terminus(atSource, api.KSource),
		terminus(atTarget, api.KTarget, api.KCoordinator),
		unsettled(),
		truth(atIncomplete),
		wordIfAny(atInitialCount),
		numberIfAny(atMaxMessage, api.Ulong, 0, math.MaxInt),
		props(),
	}
}

func flowFields() []field {
	return []field{
		wordIfAny(atNextIn),
		word(atInWin, 0),
		word(atNextOut, 0),
		word(atOutWin, 0),
		wordIfAny(atHandle),
		wordIfAny(atCount),
		wordIfAny(atCredit),
		wordIfAny(atAvailable),
		truth(atDrain),
		truth(atEcho),
		props(),
	}
}

func transferFields() []field {
	return []field{
		word(atHandle, 0),
		wordIfAny(atDeliveryId),
		ifSaid(atHasTag, tag()),
		wordIfAny(atFormat),
		ifSaid(atHasSettled, truth(atSettled)),
		truth(atMore),
		state(),
		truth(atResume),
		truth(atAborted),
		truth(atBatchable),
	}
}

func dispositionFields() []field {
	return []field{
		truth(atReceiver),
		word(atFirst, 0),
		wordIfAny(atLast),
		truth(atSettled),
		state(),
		truth(atBatchable),
	}
}
